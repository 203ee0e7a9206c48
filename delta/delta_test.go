package delta_test

import (
	"bytes"
	"encoding/binary"
	"math"
	"math/big"
	"slices"
	"testing"

	"lamina/api"
	"lamina/delta"
	"lamina/frameref"
)

const maxLength = 65536

// sequences returns all sequences of up to length elements of the alphabet.
func sequences[T any](alphabet []T, length int) [][]T {
	all := [][]T{{}}
	for start := 0; length > 0; length-- {
		end := len(all)
		for _, s := range all[start:end] {
			for _, x := range alphabet {
				all = append(all, append(slices.Clone(s), x))
			}
		}
		start = end
	}
	return all
}

// curves returns n numbers each of sequences that are equal, rise evenly, rise ever faster, swing, jump, or overflow in several ways.
func curves(n int) [][]int64 {
	list := make([][]int64, 9)
	for i := range int64(n) {
		for k, v := range []int64{
			-5,
			1000 + 30*i,
			i * (i + 1) / 2,
			i * i * i,
			i % 2 * 900,
			i/10*1_000_000 + i%10,
			i * math.MaxInt64,
			i * i * (math.MaxInt64 / 7),
			math.MaxInt64 - 3 + i*i,
		} {
			list[k] = append(list[k], v)
		}
	}
	return list
}

// samples returns short lists in great number, and lists whose first or second differences have every width.
func samples() [][]int64 {
	list := sequences([]int64{0, 1, -1, 3, 1000}, 5)
	list = append(list, sequences([]int64{0, -1, 1 << 40, math.MinInt64, math.MaxInt64, math.MinInt64 + 1, math.MaxInt64 - 1}, 4)...)
	for _, n := range []int{5, 6, 7, 8, 20, 64, 150} {
		list = append(list, curves(n)...)
	}
	mixed := uint64(1)
	for width := range 65 {
		for _, n := range []int{3, 9, 40} {
			plain, sums, sumsOfSums := make([]int64, n), make([]int64, n), make([]int64, n)
			sum, sumOfSums := int64(7), int64(-70)
			for i := range n {
				mixed = mixed*6364136223846793005 + 1442695040888963407
				plain[i] = int64(mixed>>(64-width)) - 500
				sum += plain[i]
				sumOfSums += sum
				sums[i], sumsOfSums[i] = sum, sumOfSums
			}
			list = append(list, plain, sums, sumsOfSums)
		}
	}
	return list
}

// longLists returns lists at the limit of the encoding, and others of many values.
func longLists() [][]int64 {
	var list [][]int64
	for _, n := range []int{128, 4096, 16386, maxLength - 1, maxLength} {
		list = append(list, curves(n)...)
	}
	return list
}

// combine returns a number of terms, each with its factor, added up modulo 2^64.
func combine(factors []int64, terms ...int64) int64 {
	sum := new(big.Int)
	for i, term := range terms {
		product := big.NewInt(term)
		sum.Add(sum, product.Mul(product, big.NewInt(factors[i])))
	}
	modulus := new(big.Int).Lsh(big.NewInt(1), 64)
	return int64(sum.Mod(sum, modulus).Uint64()) // Mod is never negative
}

// firstDifferences follows the definition.
func firstDifferences(values []int64) []int64 {
	var list []int64
	for i := 1; i < len(values); i++ {
		list = append(list, combine([]int64{1, -1}, values[i], values[i-1]))
	}
	return list
}

// secondDifferences takes them from the values: (c - b) - (b - a).
func secondDifferences(values []int64) []int64 {
	var list []int64
	for i := 2; i < len(values); i++ {
		list = append(list, combine([]int64{1, -2, 1}, values[i], values[i-1], values[i-2]))
	}
	return list
}

// sums adds up the first number and ever more of the differences.
func sums(first int64, differences []int64) []int64 {
	sum, list := new(big.Int).SetInt64(first), []int64{first}
	modulus := new(big.Int).Lsh(big.NewInt(1), 64)
	for _, d := range differences {
		sum.Add(sum, big.NewInt(d))
		list = append(list, int64(new(big.Int).Mod(sum, modulus).Uint64()))
	}
	return list
}

// forms returns form 1 and, if there is one, form 2.
func forms(values []int64) [][]byte {
	one := []byte{1}
	if len(values) > 0 {
		one = binary.AppendVarint(one, values[0]) // is the varint of the zigzag number
	}
	differences := firstDifferences(values)
	list := [][]byte{append(one, frameref.Encode(differences)...)}
	if len(values) >= 2 {
		two := binary.AppendVarint([]byte{2}, values[0])
		two = binary.AppendVarint(two, differences[0])
		list = append(list, append(two, frameref.Encode(secondDifferences(values))...))
	}
	return list
}

// encode returns the form that is chosen.
func encode(values []int64) []byte {
	list := forms(values)
	if len(list) == 2 && len(list[1]) < len(list[0]) {
		return list[1]
	}
	return list[0]
}

// checkDecoded fails unless Decode finds the values at offset and ends at next.
func checkDecoded(t *testing.T, b []byte, offset int, values []int64, next int) {
	t.Helper()
	got, end, e := delta.Decode(b, offset, len(values))
	if e != api.OK || end != next || !slices.Equal(got, values) {
		t.Fatalf("Decode of %d values at %d has %d, offset %d, error %d, want offset %d", len(values), offset, len(got), end, e, next)
	}
}

// checkRefused fails unless Decode reports the error, and nothing beside it.
func checkRefused(t *testing.T, name string, b []byte, offset, n int, want api.Errno) {
	t.Helper()
	if got, next, e := delta.Decode(b, offset, n); e != want || next != 0 || len(got) != 0 {
		t.Errorf("%s: Decode(%x, %d, %d) has %d values, offset %d, error %d, want error %d", name, b, offset, n, len(got), next, e, want)
	}
}

// P9.1

func TestDifferencesAndSumsOfAFewValues(t *testing.T) {
	for _, c := range []struct {
		values, want []int64
	}{
		{[]int64{0}, nil},
		{[]int64{7}, nil},
		{[]int64{math.MinInt64}, nil},
		{[]int64{3, 5, 4}, []int64{2, -1}},
		{[]int64{5, 5}, []int64{0}},
		{[]int64{-2, -7, 7, 0}, []int64{-5, 14, -7}},
		{[]int64{0, math.MinInt64}, []int64{math.MinInt64}},
		// Modulo 2^64, the greatest number and the least one are neighbours.
		{[]int64{math.MaxInt64, math.MinInt64}, []int64{1}},
		{[]int64{math.MinInt64, math.MaxInt64}, []int64{-1}},
		{[]int64{-1, math.MaxInt64, 0}, []int64{math.MinInt64, -math.MaxInt64}},
		{[]int64{math.MinInt64, 0, math.MinInt64}, []int64{math.MinInt64, math.MinInt64}},
		{[]int64{1 << 62, -(1 << 62), 1 << 62}, []int64{math.MinInt64, math.MinInt64}},
		{[]int64{1<<62 + 1, -(1 << 62)}, []int64{math.MaxInt64}},
	} {
		if got := delta.Differences(c.values); !slices.Equal(got, c.want) {
			t.Errorf("Differences(%d) = %d, want %d", c.values, got, c.want)
		}
		if got := delta.PrefixSums(c.values[0], c.want); !slices.Equal(got, c.values) {
			t.Errorf("PrefixSums(%d, %d) = %d, want %d", c.values[0], c.want, got, c.values)
		}
	}
	for _, none := range [][]int64{nil, {}} {
		if got := delta.Differences(none); len(got) != 0 {
			t.Errorf("Differences of nothing = %d", got)
		}
		if got := delta.PrefixSums(9, none); !slices.Equal(got, []int64{9}) {
			t.Errorf("PrefixSums(9) = %d", got)
		}
	}
}

func TestDifferencesAndSumsAgreeWithTheDefinition(t *testing.T) {
	for _, values := range append(samples(), longLists()...) {
		before := slices.Clone(values)
		if got, want := delta.Differences(values), firstDifferences(values); !slices.Equal(got, want) {
			t.Fatalf("Differences of %d values has %d, want %d", len(values), len(got), len(want))
		}
		for _, first := range []int64{0, -3, math.MinInt64, math.MaxInt64} {
			if got, want := delta.PrefixSums(first, values), sums(first, values); !slices.Equal(got, want) {
				t.Fatalf("PrefixSums(%d) of %d values has %d, want %d", first, len(values), len(got), len(want))
			}
		}
		if !slices.Equal(values, before) {
			t.Fatalf("%d values were changed", len(values))
		}
	}
}

// TestDifferencesBeyondTheLongestEncoding covers lists that only the encoding refuses.
func TestDifferencesBeyondTheLongestEncoding(t *testing.T) {
	for _, n := range []int{maxLength + 1, 1 << 20} {
		values := make([]int64, n)
		for i := range values {
			values[i] = int64(i) * int64(i)
		}
		differences := delta.Differences(values)
		if len(differences) != n-1 || differences[n-2] != int64(2*n-3) {
			t.Errorf("Differences of %d values has %d", n, len(differences))
		}
		if got := delta.PrefixSums(0, differences); !slices.Equal(got, values) {
			t.Errorf("PrefixSums of %d differences has %d", n-1, len(got))
		}
	}
}

// P9.2

func TestEncodingOfAFewValues(t *testing.T) {
	ten := func(first byte) []byte { return append(append([]byte{first}, bytes.Repeat([]byte{255}, 8)...), 1) }
	for _, c := range []struct {
		values []int64
		want   []byte
	}{
		{nil, []byte{1, 0, 0, 0}},
		{[]int64{}, []byte{1, 0, 0, 0}},
		{[]int64{0}, []byte{1, 0, 0, 0, 0}},
		{[]int64{7}, []byte{1, 14, 0, 0, 0}},
		{[]int64{-1}, []byte{1, 1, 0, 0, 0}},
		{[]int64{100}, []byte{1, 200, 1, 0, 0, 0}},
		{[]int64{math.MinInt64}, append(append([]byte{1}, ten(255)...), 0, 0, 0)},
		{[]int64{math.MaxInt64}, append(append([]byte{1}, ten(254)...), 0, 0, 0)},
		{[]int64{0, 0}, []byte{1, 0, 0, 0, 0}},
		{[]int64{3, 5}, []byte{1, 6, 4, 0, 0}},
		{[]int64{math.MinInt64, math.MaxInt64}, append(append([]byte{1}, ten(255)...), 1, 0, 0)},
		{[]int64{math.MaxInt64, math.MinInt64}, append(append([]byte{1}, ten(254)...), 2, 0, 0)},
		{[]int64{3, 5, 4}, []byte{1, 6, 1, 2, 0, 3}},
		{[]int64{10, 20, 30, 40}, []byte{1, 20, 20, 0, 0}},
		{[]int64{10, 20, 30, 40, 50, 61}, []byte{1, 20, 20, 1, 0, 16}},
		// The forms are equally long.
		{[]int64{1, 2, 4}, []byte{1, 2, 2, 1, 0, 2}},
		{[]int64{0, 1, 3, 6, 10}, []byte{1, 0, 2, 2, 0, 0xe4}},
		{[]int64{0, math.MinInt64, 1}, slices.Concat([]byte{1, 0}, ten(255), []byte{1, 0, 2})},
		// Form 2 is shorter.
		{[]int64{0, 1, 3, 6, 10, 15}, []byte{2, 0, 2, 2, 0, 0}},
		{[]int64{9, 8, 6, 3, -1, -6}, []byte{2, 18, 1, 1, 0, 0}},
		{[]int64{0, 1000, 3000}, []byte{2, 0, 0xd0, 0x0f, 0xd0, 0x0f, 0, 0}},
		// The first differences are 2^63-5 and 5-2^63, but the second one is 10 modulo 2^64.
		{[]int64{5, math.MinInt64, 5}, slices.Concat([]byte{2, 10}, ten(246), []byte{20, 0, 0})},
	} {
		if got := delta.Encode(c.values); !bytes.Equal(got, c.want) {
			t.Errorf("Encode(%d) = %x, want %x", c.values, got, c.want)
		}
		if got := delta.Size(c.values); got != len(c.want) {
			t.Errorf("Size(%d) = %d, want %d", c.values, got, len(c.want))
		}
	}
}

func TestEncodingAgreesWithTheModel(t *testing.T) {
	for _, values := range append(samples(), longLists()...) {
		before := slices.Clone(values)
		want := encode(values)
		if got := delta.Encode(values); !bytes.Equal(got, want) {
			t.Fatalf("Encode of %d values has %d bytes, want %d, of form %d", len(values), len(got), len(want), want[0])
		}
		if got := delta.Size(values); got != len(want) {
			t.Fatalf("Size of %d values = %d, want %d", len(values), got, len(want))
		}
		if !slices.Equal(values, before) {
			t.Fatalf("%d values were changed", len(values))
		}
	}
}

func TestTheShorterFormIsChosenAndForm1OfEqualOnes(t *testing.T) {
	shorter, equal, longer := 0, 0, 0
	for _, values := range samples() {
		list, chosen := forms(values), byte(1)
		switch {
		case len(list) == 1:
		case len(list[1]) < len(list[0]):
			shorter, chosen = shorter+1, 2
		case len(list[1]) == len(list[0]):
			equal++
		default:
			longer++
		}
		if got := delta.Encode(values); got[0] != chosen || !bytes.Equal(got, list[chosen-1]) {
			t.Fatalf("Encode(%d) has form %d, want form %d", values, got[0], chosen)
		}
	}
	if min(shorter, equal, longer) < 100 {
		t.Errorf("of the samples, form 2 is shorter for %d, equal for %d and longer for %d", shorter, equal, longer)
	}
}

func TestListsThatAreTooLong(t *testing.T) {
	for _, n := range []int{maxLength + 1, maxLength + 2, 2 * maxLength, 1<<20 + 2} {
		for _, values := range [][]int64{make([]int64, n), slices.Repeat([]int64{0, 1 << 40}, n)[:n]} {
			if got := delta.Encode(values); len(got) != 0 {
				t.Errorf("Encode of %d values has %d bytes", n, len(got))
			}
			if got := delta.Size(values); got != 0 {
				t.Errorf("Size of %d values = %d", n, got)
			}
		}
	}
	longest := make([]int64, maxLength)
	if got := delta.Encode(longest); !bytes.Equal(got, []byte{1, 0, 0, 0, 0}) || delta.Size(longest) != len(got) {
		t.Errorf("Encode of %d zeros = %x", maxLength, got)
	}
}

// P9.3

func TestDecodeOfAFewEncodings(t *testing.T) {
	for _, c := range []struct {
		b    []byte
		want []int64
	}{
		{[]byte{1, 0, 0, 0}, nil},
		{[]byte{1, 14, 0, 0, 0}, []int64{7}},
		{[]byte{1, 6, 4, 0, 0}, []int64{3, 5}},
		{[]byte{1, 6, 1, 2, 0, 3}, []int64{3, 5, 4}},
		{[]byte{1, 20, 20, 0, 0}, []int64{10, 20, 30, 40}},
		{[]byte{2, 0, 2, 2, 0, 0}, []int64{0, 1, 3, 6, 10, 15}},
		{[]byte{2, 18, 1, 1, 0, 0}, []int64{9, 8, 6, 3, -1, -6}},
		{[]byte{2, 0, 0xd0, 0x0f, 0xd0, 0x0f, 0, 0}, []int64{0, 1000, 3000}},
		{[]byte{1, 254, 255, 255, 255, 255, 255, 255, 255, 255, 1, 2, 0, 0}, []int64{math.MaxInt64, math.MinInt64, math.MinInt64 + 1}},
	} {
		checkDecoded(t, c.b, 0, c.want, len(c.b))
		for cut := range len(c.b) {
			checkRefused(t, "cut", c.b[:cut], 0, len(c.want), api.ErrShort)
		}
	}
	if got, next, e := delta.Decode([]byte{1, 10, 2, 0, 0}, 0, maxLength); e != api.OK || next != 5 || len(got) != maxLength || got[maxLength-1] != maxLength+4 {
		t.Errorf("Decode of %d values has %d, offset %d, error %d", maxLength, len(got), next, e)
	}
	if got, next, e := delta.Decode([]byte{2, 10, 0, 2, 0, 0}, 0, maxLength); e != api.OK || next != 6 || len(got) != maxLength || got[maxLength-1] != 5+(maxLength-1)*(maxLength-2)/2 {
		t.Errorf("Decode of %d values in form 2 has %d, offset %d, error %d", maxLength, len(got), next, e)
	}
}

func TestDecodeWithArgumentsOutOfRange(t *testing.T) {
	for _, b := range [][]byte{nil, {1}, {3}, {1, 0, 0, 0}, {1, 14, 0, 0, 0}, {2, 0, 2, 2, 0, 0}, {1, 0x80, 0}, bytes.Repeat([]byte{255}, 30)} {
		for _, offset := range []int{math.MinInt, math.MinInt + 1, -maxLength, -2, -1} {
			for _, n := range []int{math.MinInt, -1, 0, 1, 6, maxLength, maxLength + 1, math.MaxInt} {
				checkRefused(t, "offset below 0", b, offset, n, api.ErrArg)
			}
		}
		beyond := []int{len(b), len(b) + 1, len(b) + 2, maxLength, math.MaxInt - 1, math.MaxInt}
		for _, n := range []int{math.MinInt, math.MinInt + 1, -maxLength, -2, -1, maxLength + 1, maxLength + 2, 1 << 40, math.MaxInt - 1, math.MaxInt} {
			for _, offset := range append(beyond, 0, len(b)/2) {
				checkRefused(t, "n", b, offset, n, api.ErrArg)
			}
		}
		for _, offset := range beyond {
			for _, n := range []int{0, 1, 2, 6, maxLength} {
				checkRefused(t, "no byte at offset", b, offset, n, api.ErrShort)
			}
		}
	}
}

func TestDecodeOfAnotherForm(t *testing.T) {
	for first := range 256 {
		b := []byte{byte(first), 0, 2, 2, 0, 0} // is valid for some n only if the first byte is 1 or 2
		for _, n := range []int{0, 1, 2, 3, 6, 100, maxLength} {
			if first != 1 && (first != 2 || n < 2) {
				checkRefused(t, "form", b, 0, n, api.ErrFormat)
				checkRefused(t, "form, and nothing behind it", b[:1], 0, n, api.ErrFormat)
				checkRefused(t, "form, and a cut number behind it", []byte{9, byte(first), 0x80}, 1, n, api.ErrFormat)
			}
		}
	}
}

func TestDecodeReportsTheErrorsOfTheParts(t *testing.T) {
	ten := bytes.Repeat([]byte{255}, 10) // no varint: more than 64 bits
	for _, c := range []struct {
		name string
		b    []byte
		n    int
		want api.Errno
	}{
		{"form 1: first number missing", []byte{1}, 1, api.ErrShort},
		{"form 1: first number cut", []byte{1, 0x80}, 1, api.ErrShort},
		{"form 1: first number too long", []byte{1, 0x80, 0, 0, 0, 0}, 1, api.ErrFormat},
		{"form 1: first number beyond 64 bits", append([]byte{1}, ten...), 3, api.ErrFormat},
		{"form 1: frame of no numbers missing", []byte{1}, 0, api.ErrShort},
		{"form 1: frame of no numbers cut", []byte{1, 0, 0}, 0, api.ErrShort},
		{"form 1: frame missing", []byte{1, 14}, 1, api.ErrShort},
		{"form 1: base cut", []byte{1, 14, 0x80}, 2, api.ErrShort},
		{"form 1: base too long", []byte{1, 14, 0x80, 0}, 2, api.ErrFormat},
		{"form 1: width 65", []byte{1, 14, 0, 65}, 2, api.ErrFormat},
		{"form 1: 1 exception of no differences", []byte{1, 14, 0, 0, 1}, 1, api.ErrFormat},
		{"form 1: 2 exceptions of 1 difference", []byte{1, 14, 0, 0, 2}, 2, api.ErrFormat},
		{"form 1: 2 exceptions of 2 differences, but none there", []byte{1, 14, 0, 0, 2}, 3, api.ErrShort},
		{"form 1: packed data of 9 differences cut", []byte{1, 14, 0, 1, 0, 0xff}, 10, api.ErrShort},
		{"form 1: exception cut", []byte{1, 14, 0, 0, 1, 8, 0xe8}, 10, api.ErrShort},
		{"form 1: a frame that is not the best", []byte{1, 20, 20, 1, 0, 0}, 3, api.ErrFormat},
		{"form 1: a base of no differences", []byte{1, 14, 2, 0, 0}, 1, api.ErrFormat},
		{"form 1: a number too long ahead of a missing frame", []byte{1, 0x81, 0}, 2, api.ErrFormat},
		{"form 2: first number missing", []byte{2}, 2, api.ErrShort},
		{"form 2: first number cut", []byte{2, 0x80}, 2, api.ErrShort},
		{"form 2: first number too long", []byte{2, 0x81, 0, 0x80}, 2, api.ErrFormat},
		{"form 2: first number beyond 64 bits", append([]byte{2}, ten...), 3, api.ErrFormat},
		{"form 2: second number missing", []byte{2, 0}, 2, api.ErrShort},
		{"form 2: second number cut", []byte{2, 0, 0x80}, 2, api.ErrShort},
		{"form 2: second number too long", []byte{2, 0, 0x81, 0, 0x80}, 3, api.ErrFormat},
		{"form 2: second number beyond 64 bits", append([]byte{2, 0}, ten...), 3, api.ErrFormat},
		{"form 2: frame missing", []byte{2, 0, 2}, 3, api.ErrShort},
		{"form 2: frame cut", []byte{2, 0, 2, 2, 0}, 6, api.ErrShort},
		{"form 2: width 65", []byte{2, 0, 2, 2, 65}, 6, api.ErrFormat},
		{"form 2: 1 exception of no differences", []byte{2, 0, 2, 0, 0, 1}, 2, api.ErrFormat},
		{"form 2: 2 exceptions of 1 difference", []byte{2, 0, 2, 0, 0, 2}, 3, api.ErrFormat},
		{"form 2: 2 exceptions of 2 differences, but none there", []byte{2, 0, 2, 0, 0, 2}, 4, api.ErrShort},
		{"form 2: packed data of 9 differences cut", []byte{2, 14, 0, 0, 1, 0, 0xff}, 11, api.ErrShort},
		{"form 2: a frame that is not the best", []byte{2, 0, 2, 2, 1, 0, 0}, 6, api.ErrFormat},
	} {
		checkRefused(t, c.name, c.b, 0, c.n, c.want)
		checkRefused(t, c.name, append([]byte{1, 0x80}, c.b...), 2, c.n, c.want)
	}
}

func TestDecodeRefusesTheFormThatIsNotChosen(t *testing.T) {
	refused := [3]int{}
	for _, values := range append(samples(), longLists()...) {
		chosen := encode(values)
		for _, b := range forms(values) {
			if bytes.Equal(b, chosen) {
				continue
			}
			refused[b[0]]++
			if got, next, e := delta.Decode(b, 0, len(values)); e != api.ErrFormat || next != 0 || len(got) != 0 {
				t.Fatalf("Decode of form %d of %d values has %d, offset %d, error %d", b[0], len(values), len(got), next, e)
			}
		}
	}
	if min(refused[1], refused[2]) < 100 {
		t.Errorf("only %d of form 1 and %d of form 2 were tried", refused[1], refused[2])
	}
	checkRefused(t, "2 numbers in form 2", []byte{2, 6, 4, 0, 0, 0}, 0, 2, api.ErrFormat)
	checkRefused(t, "equally long", []byte{2, 2, 2, 2, 0, 0}, 0, 3, api.ErrFormat)
	checkRefused(t, "longer", []byte{1, 0, 2, 3, 0, 0x88, 0x46}, 0, 6, api.ErrFormat)
}

// readNumber reads a zigzag varint at offset; only the shortest one of a number is accepted.
func readNumber(b []byte, offset int) (int64, int, api.Errno) {
	n, size := binary.Varint(b[offset:])
	if size == 0 && len(b)-offset < 10 {
		return 0, 0, api.ErrShort
	}
	if size <= 0 || size > 1 && b[offset+size-1] == 0 {
		return 0, 0, api.ErrFormat
	}
	return n, offset + size, api.OK
}

// decode reads form by form, and then asks whether the other form would have been chosen.
func decode(b []byte, offset, n int) ([]int64, int, api.Errno) {
	if len(b) <= offset {
		return nil, 0, api.ErrShort
	}
	start, form := offset, b[offset]
	if form != 1 && (form != 2 || n < 2) {
		return nil, 0, api.ErrFormat
	}
	var values []int64
	var e api.Errno
	offset++
	switch {
	case n == 0:
		_, offset, e = frameref.Decode(b, offset, 0)
	case form == 1:
		values, offset, e = decodeSums(b, offset, n-1, frameref.Decode)
	default:
		values, offset, e = decodeSums(b, offset, n-1, func(b []byte, offset, n int) ([]int64, int, api.Errno) {
			return decodeSums(b, offset, n-1, frameref.Decode)
		})
	}
	if e != api.OK {
		return nil, 0, e
	}
	if !bytes.Equal(encode(values), b[start:offset]) {
		return nil, 0, api.ErrFormat
	}
	return values, offset, api.OK
}

// decodeSums reads a number and, by the function, n differences, and adds them up.
func decodeSums(b []byte, offset, n int, read func([]byte, int, int) ([]int64, int, api.Errno)) ([]int64, int, api.Errno) {
	first, next, e := readNumber(b, offset)
	if e != api.OK {
		return nil, 0, e
	}
	differences, next, e := read(b, next, n)
	if e != api.OK {
		return nil, 0, e
	}
	return sums(first, differences), next, api.OK
}

// checkAgainstModel compares Decode with decode and returns whether b was accepted; what is accepted is encoded to the same bytes.
func checkAgainstModel(t *testing.T, b []byte, offset, n int) bool {
	t.Helper()
	got, next, e := delta.Decode(b, offset, n)
	want, wantNext, wantE := decode(b, offset, n)
	if e != wantE || next != wantNext || !slices.Equal(got, want) {
		t.Fatalf("Decode(%x, %d, %d) = %d, %d, %d, want %d, %d, %d", b, offset, n, got, next, e, want, wantNext, wantE)
	}
	if e == api.OK && !bytes.Equal(delta.Encode(got), b[offset:next]) {
		t.Fatalf("%x is decoded to %d, which is encoded as %x", b[offset:], got, delta.Encode(got))
	}
	return e == api.OK
}

// TestDecodeAgreesWithTheModel tries all short sequences of bytes that matter: forms, ends of varints, bytes that others follow, widths and small numbers.
func TestDecodeAgreesWithTheModel(t *testing.T) {
	accepted := [3]int{}
	try := func(b []byte, n int) {
		if checkAgainstModel(t, b, 0, n) {
			accepted[b[0]]++
		}
	}
	for _, b := range sequences([]byte{0, 1, 2, 3, 128, 255}, 6) {
		for n := range 5 {
			try(b, n)
		}
	}
	for first := range 256 {
		for second := range 256 {
			try([]byte{1, 3, 9, 2, 0, byte(first), byte(second)}, 9)
			try([]byte{1, byte(first), 4, 2, 0, byte(second)}, 4)
			try([]byte{2, byte(first), byte(second), 9, 0, 0}, 9)
			try([]byte{2, 5, byte(first), 1, byte(second), 0, 0}, 6)
			try([]byte{2, 5, 100, 0x80, 1, 2, 0, byte(first), byte(second)}, 9)
		}
	}
	if min(accepted[1], accepted[2]) < 5000 {
		t.Errorf("only %d sequences of form 1 and %d of form 2 were accepted", accepted[1], accepted[2])
	}
}

func TestDecodeOfDamagedEncodings(t *testing.T) {
	for k, values := range samples() {
		b := delta.Encode(values)
		if k%23 != 0 || len(b) > 100 {
			continue
		}
		for cut := range len(b) {
			checkRefused(t, "cut", b[:cut], 0, len(values), api.ErrShort)
		}
		for p := range 8 * len(b) {
			b[p/8] ^= 1 << (p % 8)
			checkAgainstModel(t, b, 0, len(values))
			b[p/8] ^= 1 << (p % 8)
		}
		for _, n := range []int{0, len(values) - 1, len(values) + 1, 2 * len(values)} {
			if n >= 0 {
				checkAgainstModel(t, b, 0, n)
			}
		}
		for offset := range len(b) {
			checkAgainstModel(t, b, offset, len(values))
		}
	}
}

// P9.4

func TestPrefixSumsInvertDifferences(t *testing.T) {
	for _, values := range append(samples(), longLists()...) {
		if len(values) == 0 {
			continue
		}
		if got := delta.PrefixSums(values[0], delta.Differences(values)); !slices.Equal(got, values) {
			t.Fatalf("PrefixSums of the differences of %d values has %d", len(values), len(got))
		}
		for _, first := range []int64{0, math.MinInt64, math.MaxInt64} {
			if got := delta.Differences(delta.PrefixSums(first, values)); !slices.Equal(got, values) {
				t.Fatalf("Differences of the sums of %d values has %d", len(values), len(got))
			}
		}
	}
}

func TestDecodeInvertsEncodeBetweenOtherBytes(t *testing.T) {
	for _, values := range samples() {
		b := delta.Encode(values)
		for _, before := range [][]byte{nil, {0}, {2, 0x80, 255}} {
			for _, after := range [][]byte{nil, {0}, {255}, {1, 0x80, 7, 0}} {
				checkDecoded(t, slices.Concat(before, b, after), len(before), values, len(before)+len(b))
			}
		}
	}
	for _, values := range longLists() {
		b := delta.Encode(values)
		checkDecoded(t, slices.Concat([]byte{1}, b, []byte{1}), 1, values, 1+len(b))
	}
}

func TestResultsShareNoMemory(t *testing.T) {
	for _, values := range [][]int64{{7}, {3, 5, 4}, {0, 1, 3, 6, 10, 15}} {
		kept, differences, b := slices.Clone(values), delta.Differences(values), delta.Encode(values)
		encoded := slices.Clone(b)
		first, _, _ := delta.Decode(b, 0, len(values))
		second, _, _ := delta.Decode(b, 0, len(values))
		all := delta.PrefixSums(values[0], differences)
		clear(differences)
		clear(first)
		clear(b)
		if !slices.Equal(values, kept) || !slices.Equal(all, kept) || !slices.Equal(second, kept) || !bytes.Equal(delta.Encode(values), encoded) {
			t.Errorf("a result changed with another one: %d, %d, %d", values, all, second)
		}
	}
}
