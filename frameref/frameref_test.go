package frameref_test

import (
	"bytes"
	"encoding/binary"
	"math"
	"math/big"
	"slices"
	"testing"

	"lamina/api"
	"lamina/frameref"
)

const (
	maxLength = 65536
	maxPacked = 1048576 // values of the longest list that bitpack packs
)

// sequences returns all sequences of up to length elements of the alphabet.
func sequences[T any](alphabet []T, length int) [][]T {
	all := [][]T{{}}
	for start := 0; length > 0; length-- {
		end := len(all)
		for _, s := range all[start:end] {
			for _, x := range alphabet {
				all = append(all, append(slices.Clone(s), x))
			}
		}
		start = end
	}
	return all
}

// samples returns short lists in great number, and lists of every width with and without values that stand out.
func samples() [][]int64 {
	list := sequences([]int64{0, 1, -1, 2, 1000}, 4)
	list = append(list, sequences([]int64{0, -3, 255, 1 << 40, math.MinInt64, math.MaxInt64}, 3)...)
	mixed := uint64(1)
	for width := range 65 {
		for _, n := range []int{1, 2, 9, 40, 150} {
			plain := make([]int64, n)
			for i := range plain {
				mixed = mixed*6364136223846793005 + 1442695040888963407
				plain[i] = int64(mixed>>(64-width)) - 500
			}
			outliers := slices.Clone(plain)
			for i := 3; i < n; i += 1 + i/2 {
				outliers[i] += int64(mixed >> (i % 64))
			}
			list = append(list, plain, outliers)
		}
	}
	return list
}

// longLists returns lists whose indices take varints of up to three bytes.
func longLists() [][]int64 {
	var list [][]int64
	for _, n := range []int{127, 128, 129, 4096, 16384, 16385, maxLength - 1, maxLength} {
		same, narrow, rare, wide := make([]int64, n), make([]int64, n), make([]int64, n), make([]int64, n)
		for i := range n {
			same[i], narrow[i], rare[i], wide[i] = -5, int64(i%8)-3, int64(i%4), int64(i*i)*1e9
			if i%100 == 99 || i == n-1 {
				rare[i] += int64(i) << (i % 50)
			}
		}
		list = append(list, same, narrow, rare, wide)
	}
	return list
}

// minimum returns the base by definition.
func minimum(values []int64) int64 {
	base := int64(0)
	for i, v := range values {
		if i == 0 || v < base {
			base = v
		}
	}
	return base
}

// low returns n modulo 2^width.
func low(n uint64, width int) uint64 {
	if width == 64 {
		return n
	}
	return n % (1 << width)
}

// pack packs by definition: the low parts are the digits, to the base 2^width, of one great number.
func pack(differences []uint64, width int) []byte {
	sum, size := new(big.Int), (len(differences)*width+7)/8
	for i, d := range differences {
		digit := new(big.Int).SetUint64(low(d, width))
		sum.Or(sum, digit.Lsh(digit, uint(i*width)))
	}
	b := sum.FillBytes(make([]byte, size))
	slices.Reverse(b)
	return b
}

// parts returns what the encoding with a width has around its packed data.
func parts(values []int64, width int) (head, tail []byte) {
	base, count := minimum(values), 0
	for i, v := range values {
		d := uint64(v) - uint64(base)
		if width < 64 && d >= 1<<width {
			count++
			tail = binary.AppendUvarint(tail, uint64(i))
			tail = binary.AppendUvarint(tail, d>>width)
		}
	}
	head = binary.AppendVarint(nil, base) // is the varint of the zigzag number
	head = binary.AppendUvarint(head, uint64(width))
	return binary.AppendUvarint(head, uint64(count)), tail
}

// encodeWith returns the encoding with a width by definition.
func encodeWith(values []int64, width int) []byte {
	head, tail := parts(values, width)
	differences := make([]uint64, len(values))
	for i, v := range values {
		differences[i] = uint64(v) - uint64(minimum(values))
	}
	return slices.Concat(head, pack(differences, width), tail)
}

// best tries every width and returns the one of the shortest encoding, with its length.
func best(values []int64) (width, size int) {
	for w := range 65 {
		head, tail := parts(values, w)
		if s := len(head) + (len(values)*w+7)/8 + len(tail); w == 0 || s < size {
			width, size = w, s
		}
	}
	return width, size
}

// checkDecoded fails unless Decode finds the values at offset and ends at next.
func checkDecoded(t *testing.T, b []byte, offset int, values []int64, next int) {
	t.Helper()
	got, end, e := frameref.Decode(b, offset, len(values))
	if e != api.OK || end != next || !slices.Equal(got, values) {
		t.Fatalf("Decode of %d values at %d has %d, offset %d, error %d, want offset %d", len(values), offset, len(got), end, e, next)
	}
}

// checkRefused fails unless Decode reports the error, and nothing beside it.
func checkRefused(t *testing.T, name string, b []byte, offset, n int, want api.Errno) {
	t.Helper()
	if got, next, e := frameref.Decode(b, offset, n); e != want || next != 0 || len(got) != 0 {
		t.Errorf("%s: Decode(%x, %d, %d) has %d values, offset %d, error %d, want error %d", name, b, offset, n, len(got), next, e, want)
	}
}

// P8.1

func TestEncodingOfAFewValues(t *testing.T) {
	ten := func(first byte) []byte { return append(append([]byte{first}, bytes.Repeat([]byte{255}, 8)...), 1) }
	for _, c := range []struct {
		values []int64
		base   int64
		width  int
		want   []byte
	}{
		{nil, 0, 0, []byte{0, 0, 0}},
		{[]int64{}, 0, 0, []byte{0, 0, 0}},
		{[]int64{0}, 0, 0, []byte{0, 0, 0}},
		{[]int64{7}, 7, 0, []byte{14, 0, 0}},
		{[]int64{5, 5, 5}, 5, 0, []byte{10, 0, 0}},
		{[]int64{-1}, -1, 0, []byte{1, 0, 0}},
		{[]int64{100, 100}, 100, 0, []byte{200, 1, 0, 0}},
		{[]int64{0, 1, 2, 3}, 0, 2, []byte{0, 2, 0, 0xe4}},
		{[]int64{3, 2, 1, 0}, 0, 2, []byte{0, 2, 0, 0x1b}},
		{[]int64{-3, 4}, -3, 3, []byte{5, 3, 0, 0x38}},
		{[]int64{1000, 1001}, 1000, 1, []byte{0xd0, 0x0f, 1, 0, 2}},
		{[]int64{0, 0, 0, 0, 0, 0, 0, 0, 1000}, 0, 0, []byte{0, 0, 1, 8, 232, 7}},
		{[]int64{1000, 0, 0, 0, 0, 0, 0, 0, 0}, 0, 0, []byte{0, 0, 1, 0, 232, 7}},
		// Width 1 takes a byte for the low parts and saves none of the exceptions, until there are as many of them.
		{[]int64{0, 0, 0, 1}, 0, 1, []byte{0, 1, 0, 8}},
		{[]int64{0, 1, 0, 1, 0, 1, 0, 900}, 0, 1, []byte{0, 1, 1, 0x2a, 7, 194, 3}},
		// The difference of the extremes is 2^64-1.
		{[]int64{math.MinInt64}, math.MinInt64, 0, append(ten(255), 0, 0)},
		{[]int64{math.MaxInt64}, math.MaxInt64, 0, append(ten(254), 0, 0)},
		{[]int64{math.MinInt64, math.MaxInt64}, math.MinInt64, 0, slices.Concat(ten(255), []byte{0, 1, 1}, ten(255))},
		{slices.Repeat([]int64{math.MinInt64, math.MaxInt64}, 4), math.MinInt64, 1, slices.Concat(ten(255), []byte{1, 4, 0xaa},
			[]byte{1}, bytes.Repeat([]byte{255}, 8), []byte{127, 3}, bytes.Repeat([]byte{255}, 8), []byte{127, 5}, bytes.Repeat([]byte{255}, 8), []byte{127, 7}, bytes.Repeat([]byte{255}, 8), []byte{127})},
	} {
		if base, width := frameref.Best(c.values); base != c.base || width != c.width {
			t.Errorf("Best(%d) = %d, %d, want %d, %d", c.values, base, width, c.base, c.width)
		}
		if got := frameref.Encode(c.values); !bytes.Equal(got, c.want) {
			t.Errorf("Encode(%d) = %x, want %x", c.values, got, c.want)
		}
		if got := frameref.Size(c.values); got != len(c.want) {
			t.Errorf("Size(%d) = %d, want %d", c.values, got, len(c.want))
		}
		checkDecoded(t, c.want, 0, c.values, len(c.want))
	}
}

func TestEveryWidthIsUsed(t *testing.T) {
	for width := range 65 {
		widest := math.MinInt64 + int64(uint64(1)<<width-1) // the greatest difference of that width, from the base below
		values := slices.Repeat([]int64{widest}, 100)
		values[0] = math.MinInt64
		if base, got := frameref.Best(values); base != math.MinInt64 || got != width {
			t.Errorf("Best of %d bits = %d, %d", width, base, got)
		}
		if got, want := frameref.Encode(values), encodeWith(values, width); !bytes.Equal(got, want) {
			t.Errorf("Encode of %d bits = %x, want %x", width, got, want)
		}
	}
}

func TestEncodingAgreesWithTheModel(t *testing.T) {
	for _, values := range samples() {
		before := slices.Clone(values)
		width, size := best(values)
		if base, got := frameref.Best(values); base != minimum(values) || got != width {
			t.Fatalf("Best(%d) = %d, %d, want %d, %d", values, base, got, minimum(values), width)
		}
		if got, want := frameref.Encode(values), encodeWith(values, width); !bytes.Equal(got, want) || len(got) != size {
			t.Fatalf("Encode(%d) = %x, want %x", values, got, want)
		}
		if got := frameref.Size(values); got != size {
			t.Fatalf("Size(%d) = %d, want %d", values, got, size)
		}
		if !slices.Equal(values, before) {
			t.Fatalf("%d was changed to %d", before, values)
		}
	}
}

func TestEncodingOfLongLists(t *testing.T) {
	for _, values := range longLists() {
		width, size := best(values)
		if base, got := frameref.Best(values); base != minimum(values) || got != width {
			t.Errorf("Best of %d values = %d, %d, want %d, %d", len(values), base, got, minimum(values), width)
		}
		if got := frameref.Size(values); got != size {
			t.Errorf("Size of %d values = %d, want %d", len(values), got, size)
		}
		head, tail := parts(values, width)
		if b := frameref.Encode(values); len(b) != size || !bytes.HasPrefix(b, head) || !bytes.HasSuffix(b, tail) {
			t.Errorf("Encode of %d values has %d bytes, want %d", len(values), len(b), size)
		}
	}
}

// TestOfSeveralWidthsTheSmallestIsChosen lists values that two or more widths encode in the fewest bytes.
func TestOfSeveralWidthsTheSmallestIsChosen(t *testing.T) {
	ties := 0
	for _, values := range samples() {
		width, size := best(values)
		for other := width + 1; other <= 64; other++ {
			head, tail := parts(values, other)
			if len(head)+(len(values)*other+7)/8+len(tail) != size {
				continue
			}
			ties++
			if _, got := frameref.Best(values); got >= other {
				t.Fatalf("Best(%d) is %d, but %d is as good as %d", values, got, width, other)
			}
		}
	}
	if ties < 1000 {
		t.Errorf("only %d ties were tried", ties)
	}
	for _, c := range []struct {
		values []int64
		want   int
	}{
		{nil, 0}, {[]int64{3}, 0}, {[]int64{math.MinInt64, math.MaxInt64}, 0}, // 0 and 1
		{[]int64{0, 1}, 1}, {[]int64{0, 3}, 2}, {[]int64{0, 15}, 4}, // up to 4
		{[]int64{0, 16}, 0}, // an exception or two bytes: 0 and 5 to 8
	} {
		if _, got := frameref.Best(c.values); got != c.want {
			t.Errorf("Best(%d) is %d, want %d", c.values, got, c.want)
		}
	}
}

func TestListsThatDecodeDoesNotRead(t *testing.T) {
	for _, n := range []int{maxLength + 1, maxLength + 100, maxPacked} {
		values := make([]int64, n)
		for i := range values {
			values[i] = int64(i % 2)
		}
		values[n-1] = 1 << 30
		b := frameref.Encode(values)
		if head, tail := parts(values, 1); len(b) != len(head)+(n+7)/8+len(tail) || !bytes.HasPrefix(b, head) || !bytes.HasSuffix(b, tail) {
			t.Errorf("Encode of %d values has %d bytes", n, len(b))
		}
		if got := frameref.Size(values); got != len(b) {
			t.Errorf("Size of %d values = %d, want %d", n, got, len(b))
		}
	}
	// Beyond the longest list that bitpack packs there is no packed data, which Size respects as Encode does.
	values := make([]int64, maxPacked+1)
	values[5] = 77
	if b := frameref.Encode(values); frameref.Size(values) != len(b) {
		t.Errorf("Size of %d values = %d, want %d", len(values), frameref.Size(values), len(b))
	}
}

// P8.2

func TestDecodeWithArgumentsOutOfRange(t *testing.T) {
	for _, b := range [][]byte{nil, {0}, {0, 0, 0}, {10, 0, 0}, {0x80, 0}, bytes.Repeat([]byte{255}, 30)} {
		for _, offset := range []int{math.MinInt, math.MinInt + 1, -2, -1, len(b) + 1, len(b) + 2, math.MaxInt} {
			for _, n := range []int{math.MinInt, -1, 0, 1, maxLength, maxLength + 1, math.MaxInt} {
				checkRefused(t, "offset", b, offset, n, api.ErrArg)
			}
		}
		for _, n := range []int{math.MinInt, math.MinInt + 1, -maxLength, -2, -1, maxLength + 1, maxLength + 2, maxPacked, 1 << 40, math.MaxInt - 1, math.MaxInt} {
			for offset := range len(b) + 1 {
				checkRefused(t, "n", b, offset, n, api.ErrArg)
			}
		}
		for _, n := range []int{0, 1, maxLength} {
			checkRefused(t, "end", b, len(b), n, api.ErrShort)
		}
	}
}

func TestDecodeReportsTheFirstErrorInTheOrderOfReading(t *testing.T) {
	ten := bytes.Repeat([]byte{255}, 10) // no varint: more than 64 bits
	for _, c := range []struct {
		name string
		b    []byte
		n    int
		want api.Errno
	}{
		{"nothing", nil, 2, api.ErrShort},
		{"base cut", []byte{0x80}, 2, api.ErrShort},
		{"base too long", []byte{0x80, 0}, 2, api.ErrFormat},
		{"base beyond 64 bits", ten, 2, api.ErrFormat},
		{"width missing", []byte{5}, 2, api.ErrShort},
		{"width cut", []byte{5, 0x80}, 2, api.ErrShort},
		{"width too long", []byte{5, 0x83, 0}, 2, api.ErrFormat},
		{"width 65", []byte{5, 65, 0}, 2, api.ErrFormat},
		{"width 65 ahead of a missing number", []byte{5, 65}, 2, api.ErrFormat},
		{"width 65 ahead of a cut number", []byte{5, 65, 0x80}, 2, api.ErrFormat},
		{"width 128", []byte{5, 0x80, 1}, 2, api.ErrFormat},
		{"width 2^63", []byte{5, 0x80, 0x80, 0x80, 0x80, 0x80, 0x80, 0x80, 0x80, 0x80, 1}, 2, api.ErrFormat},
		{"width 2^64-1", []byte{5, 255, 255, 255, 255, 255, 255, 255, 255, 255, 1}, 2, api.ErrFormat},
		{"width 65 of no values", []byte{0, 65, 0}, 0, api.ErrFormat},
		{"number missing", []byte{5, 3}, 2, api.ErrShort},
		{"number cut", []byte{5, 3, 0x80}, 2, api.ErrShort},
		{"number too long", []byte{5, 3, 0x80, 0}, 2, api.ErrFormat},
		{"3 exceptions of 2 values", []byte{5, 0, 3}, 2, api.ErrFormat},
		{"3 exceptions of 2 values ahead of missing data", []byte{5, 64, 3}, 2, api.ErrFormat},
		{"1 exception of no values", []byte{0, 0, 1}, 0, api.ErrFormat},
		{"2^64-1 exceptions", []byte{5, 0, 255, 255, 255, 255, 255, 255, 255, 255, 255, 1}, 2, api.ErrFormat},
		{"2^63 exceptions", []byte{5, 0, 0x80, 0x80, 0x80, 0x80, 0x80, 0x80, 0x80, 0x80, 0x80, 1}, 2, api.ErrFormat},
		{"65537 exceptions", []byte{5, 0, 0x81, 0x80, 4}, maxLength, api.ErrFormat},
		{"65536 exceptions, but none there", []byte{5, 0, 0x80, 0x80, 4}, maxLength, api.ErrShort},
		{"data missing", []byte{5, 3, 0}, 2, api.ErrShort},
		{"data cut", []byte{5, 8, 0, 1}, 2, api.ErrShort},
		{"data of the most values missing", append([]byte{5, 64, 0}, make([]byte, 8*maxLength-1)...), maxLength, api.ErrShort},
		{"data cut ahead of a bad exception", []byte{5, 8, 1, 1}, 2, api.ErrShort},
		{"index missing", []byte{0, 0, 1}, 2, api.ErrShort},
		{"index cut", []byte{0, 0, 1, 0x81}, 2, api.ErrShort},
		{"index too long", []byte{0, 0, 1, 0x81, 0, 1}, 2, api.ErrFormat},
		{"high part missing", []byte{0, 0, 1, 1}, 2, api.ErrShort},
		{"high part cut", []byte{0, 0, 1, 1, 0x80}, 2, api.ErrShort},
		{"high part too long", []byte{0, 0, 1, 1, 0x81, 0}, 2, api.ErrFormat},
		{"second exception missing", []byte{0, 0, 2, 1, 9}, 3, api.ErrShort},
		// What can be read but is not valid is reported after everything that can't be read.
		{"an index out of range ahead of a missing high part", []byte{0, 0, 1, 9}, 2, api.ErrShort},
		{"an index out of range ahead of a missing exception", []byte{0, 0, 2, 9, 1}, 2, api.ErrShort},
		{"a high part of 0 ahead of a missing exception", []byte{0, 0, 2, 1, 0}, 3, api.ErrShort},
		{"a set bit that is unused ahead of a missing exception", []byte{0, 1, 1, 0xf0}, 2, api.ErrShort},
		{"a set bit that is unused ahead of a cut exception", []byte{0, 1, 1, 0xf0, 0x80}, 2, api.ErrShort},
		{"no value has the base ahead of a missing exception", []byte{0, 1, 1, 3}, 2, api.ErrShort},
	} {
		checkRefused(t, c.name, c.b, 0, c.n, c.want)
		checkRefused(t, c.name, append([]byte{9, 0x80}, c.b...), 2, c.n, c.want)
	}
}

func TestDecodeRefusesWhatNoListIsEncodedAs(t *testing.T) {
	nine := bytes.Repeat([]byte{255}, 9)
	for _, c := range []struct {
		name string
		b    []byte
		n    int
	}{
		{"a base of no values", []byte{2, 0, 0}, 0},
		{"a width of no values", []byte{0, 1, 0}, 0},
		{"no value has the base", []byte{4, 3, 0, 255}, 2},
		{"no value has the base: one exception", []byte{0, 0, 1, 0, 5}, 1},
		{"a set bit that is unused", []byte{5, 3, 0, 0x78}, 2},
		{"all bits unused", []byte{0, 1, 0, 4}, 2},
		{"wider than needed", []byte{5, 4, 0, 0x70}, 2},
		{"width of equal values", []byte{10, 1, 0, 0}, 3},
		{"width 64", append([]byte{0, 64, 0, 1}, make([]byte, 15)...), 2},
		{"an exception that costs as much as a greater width", []byte{0, 0, 1, 1, 1}, 2},
		{"no exception where one is shorter", append(append([]byte{0, 10, 0}, make([]byte, 10)...), 0xe8, 3), 9},
		{"width 1 where width 0 is shorter", []byte{0, 1, 1, 0, 0, 8, 0xf4, 3}, 9},
		{"an index out of range", []byte{0, 0, 1, 9, 232, 7}, 9},
		{"an index far out of range", slices.Concat([]byte{0, 0, 1}, nine, []byte{1, 232, 7}), 9},
		{"an index of 2^63", []byte{0, 0, 1, 128, 128, 128, 128, 128, 128, 128, 128, 128, 1, 232, 7}, 9},
		{"an index twice", []byte{0, 0, 2, 8, 232, 7, 8, 232, 7}, 9},
		{"an index twice, with other bits", []byte{0, 0, 2, 8, 200, 7, 8, 32}, 9},
		{"indices that decrease", []byte{0, 0, 2, 8, 232, 7, 1, 232, 7}, 9},
		{"a high part of 0", []byte{0, 0, 1, 8, 0}, 9},
		{"a high part of 0 beside a valid exception", []byte{0, 0, 2, 1, 0, 8, 232, 7}, 9},
		{"a high part with more bits than are left", slices.Concat([]byte{0, 1, 1, 0x2a, 7}, nine, []byte{1}), 8},
		{"a high part of which nothing is left", []byte{0, 63, 1, 0, 0, 0, 0, 0, 0, 0, 0, 0, 0, 0, 0, 0, 0, 0, 0, 1, 2}, 2},
		{"a high part beyond width 64", append(append([]byte{0, 64, 1}, make([]byte, 16)...), 1, 1), 2},
		{"a value above 2^63-1", append(append([]byte{254}, nine[1:]...), 255, 1, 0, 1, 8, 232, 7), 9},
		{"a packed value above 2^63-1", append(append([]byte{254}, nine[1:]...), 255, 1, 1, 0, 2), 2},
	} {
		checkRefused(t, c.name, c.b, 0, c.n, api.ErrFormat)
		checkRefused(t, c.name+", with bytes behind", append(slices.Clone(c.b), 0, 0, 0), 0, c.n, api.ErrFormat)
	}
}

func TestDecodeRefusesEncodingsWithOtherWidths(t *testing.T) {
	for _, values := range samples() {
		width, _ := best(values)
		for other := range 65 {
			b := encodeWith(values, other)
			if other == width {
				checkDecoded(t, b, 0, values, len(b))
				continue
			}
			checkRefused(t, "other width", b, 0, len(values), api.ErrFormat)
		}
	}
}

func TestDecodeOfTheMostValues(t *testing.T) {
	for _, values := range longLists() {
		b := frameref.Encode(values)
		checkDecoded(t, b, 0, values, len(b))
	}
	if got, next, e := frameref.Decode([]byte{10, 0, 0}, 0, maxLength); e != api.OK || next != 3 || len(got) != maxLength || slices.Max(got) != 5 || slices.Min(got) != 5 {
		t.Errorf("Decode of %d equal values has %d, offset %d, error %d", maxLength, len(got), next, e)
	}
	checkRefused(t, "too many", []byte{10, 0, 0}, 0, maxLength+1, api.ErrArg)
}

// readNumber reads a varint at offset; only the shortest one of a number is accepted.
func readNumber(b []byte, offset int) (uint64, int, api.Errno) {
	n, size := binary.Uvarint(b[offset:])
	if size == 0 && len(b)-offset < 10 {
		return 0, 0, api.ErrShort
	}
	if size <= 0 || size > 1 && b[offset+size-1] == 0 {
		return 0, 0, api.ErrFormat
	}
	return n, offset + size, api.OK
}

// decode reads the parts one by one, and then asks of each of them whether a list can have it.
func decode(b []byte, offset, n int) ([]int64, int, api.Errno) {
	var numbers [3]uint64 // base, width, exceptions
	for i, limit := range []uint64{math.MaxUint64, 64, uint64(n)} {
		number, next, e := readNumber(b, offset)
		if e != api.OK {
			return nil, 0, e
		}
		if number > limit {
			return nil, 0, api.ErrFormat
		}
		numbers[i], offset = number, next
	}
	base, width := new(big.Int).SetUint64(numbers[0]), int(numbers[1])
	if base.Bit(0) == 1 {
		base.Not(base)
	}
	base.Rsh(base, 1)
	size := (n*width + 7) / 8
	if len(b)-offset < size {
		return nil, 0, api.ErrShort
	}
	packed := slices.Clone(b[offset : offset+size])
	slices.Reverse(packed)
	digits := new(big.Int).SetBytes(packed)
	offset += size
	high, valid, last := map[uint64]uint64{}, digits.BitLen() <= n*width, -1
	for range numbers[2] {
		index, next, e := readNumber(b, offset)
		if e != api.OK {
			return nil, 0, e
		}
		part, next, e := readNumber(b, next)
		if e != api.OK {
			return nil, 0, e
		}
		valid = valid && index < uint64(n) && int(index) > last && part > 0
		if valid {
			high[index], last = part, int(index)
		}
		offset = next
	}
	if !valid {
		return nil, 0, api.ErrFormat
	}
	values := make([]int64, n)
	for i := range values {
		sum := new(big.Int).SetUint64(high[uint64(i)])
		for k := width - 1; k >= 0; k-- {
			sum.Lsh(sum, 1).Add(sum, big.NewInt(int64(digits.Bit(i*width+k))))
		}
		if sum.Add(sum, base); !sum.IsInt64() {
			return nil, 0, api.ErrFormat
		}
		values[i] = sum.Int64()
	}
	if w, _ := best(values); w != width || minimum(values) != base.Int64() {
		return nil, 0, api.ErrFormat
	}
	return values, offset, api.OK
}

// checkAgainstModel compares Decode with decode and returns whether b was accepted; what is accepted is encoded to the same bytes.
func checkAgainstModel(t *testing.T, b []byte, n int) bool {
	t.Helper()
	got, next, e := frameref.Decode(b, 0, n)
	want, wantNext, wantE := decode(b, 0, n)
	if e != wantE || next != wantNext || !slices.Equal(got, want) {
		t.Fatalf("Decode(%x, 0, %d) = %d, %d, %d, want %d, %d, %d", b, n, got, next, e, want, wantNext, wantE)
	}
	if e == api.OK && !bytes.Equal(frameref.Encode(got), b[:next]) {
		t.Fatalf("%x is decoded to %d, which is encoded as %x", b, got, frameref.Encode(got))
	}
	return e == api.OK
}

// TestDecodeAgreesWithTheModel tries all short sequences of bytes that matter: ends of varints, bytes that others follow, widths and small numbers.
func TestDecodeAgreesWithTheModel(t *testing.T) {
	accepted := 0
	for _, b := range sequences([]byte{0, 1, 2, 3, 8, 64, 128, 255}, 6) {
		for n := range 4 {
			if checkAgainstModel(t, b, n) {
				accepted++
			}
		}
	}
	for first := range 256 {
		for second := range 256 {
			for _, b := range [][]byte{{6, byte(first), 0, byte(second)}, {0, 2, 0, byte(first), byte(second)}, {3, 0, 1, 1, byte(first), byte(second)}} {
				for _, n := range []int{2, 5} {
					if checkAgainstModel(t, b, n) {
						accepted++
					}
				}
			}
		}
	}
	if accepted < 10000 {
		t.Errorf("only %d sequences were accepted", accepted)
	}
}

func TestDecodeOfDamagedEncodings(t *testing.T) {
	for k, values := range samples() {
		b := frameref.Encode(values)
		if k%5 != 0 || len(b) > 120 {
			continue
		}
		for cut := range len(b) {
			checkRefused(t, "cut", b[:cut], 0, len(values), api.ErrShort)
		}
		for p := range 8 * len(b) {
			b[p/8] ^= 1 << (p % 8)
			checkAgainstModel(t, b, len(values))
			b[p/8] ^= 1 << (p % 8)
		}
		for _, n := range []int{0, len(values) - 1, len(values) + 1, 2 * len(values)} {
			if n >= 0 {
				checkAgainstModel(t, b, n)
			}
		}
	}
}

// P8.3

func TestAtReturnsTheValueWithAnIndex(t *testing.T) {
	for _, c := range []struct {
		b    []byte
		want []int64
	}{
		{[]byte{10, 0, 0}, []int64{5, 5, 5}},
		{[]byte{0, 2, 0, 0xe4}, []int64{0, 1, 2, 3}},
		{[]byte{5, 3, 0, 0x38}, []int64{-3, 4}},
		{[]byte{0, 0, 1, 8, 232, 7}, []int64{0, 0, 0, 0, 0, 0, 0, 0, 1000}},
		{[]byte{0, 0, 1, 0, 232, 7}, []int64{1000, 0, 0, 0, 0, 0, 0, 0, 0}},
		{[]byte{0, 1, 1, 0x2a, 7, 194, 3}, []int64{0, 1, 0, 1, 0, 1, 0, 900}},
		{[]byte{1, 0, 2, 1, 200, 7, 3, 100}, []int64{-1, 967, -1, 99, -1, -1, -1, -1, -1, -1}},
	} {
		for i, want := range c.want {
			if got, e := frameref.At(c.b, 0, len(c.want), i); got != want || e != api.OK {
				t.Errorf("At(%x, 0, %d, %d) = %d, %d, want %d", c.b, len(c.want), i, got, e, want)
			}
		}
		checkDecoded(t, c.b, 0, c.want, len(c.b))
	}
}

func TestAtOutOfRange(t *testing.T) {
	for _, values := range [][]int64{nil, {7}, {0, 1, 2, 3}, {0, 0, 0, 0, 0, 0, 0, 0, 1000}, {math.MinInt64, math.MaxInt64}, make([]int64, maxLength)} {
		b, n := frameref.Encode(values), len(values)
		for _, i := range []int{math.MinInt, math.MinInt + 1, -maxLength, -2, -1, n, n + 1, n + 8, maxLength, maxLength + 1, 1 << 40, math.MaxInt - 1, math.MaxInt} {
			if got, e := frameref.At(b, 0, n, i); got != 0 || e != api.ErrArg {
				t.Errorf("At(%x, 0, %d, %d) = %d, %d, want error %d", b, n, i, got, e, api.ErrArg)
			}
		}
	}
}

// TestWithoutAGuaranteeNothingPanics covers arguments for which the chapter leaves the result of At open.
func TestWithoutAGuaranteeNothingPanics(t *testing.T) {
	inputs := sequences([]byte{0, 1, 9, 64, 128, 255}, 5)
	inputs = append(inputs, bytes.Repeat([]byte{255}, 40), append([]byte{0, 64, 2}, bytes.Repeat([]byte{255}, 60)...), append([]byte{0, 63, 9}, make([]byte, 60)...))
	for _, b := range inputs {
		for _, offset := range []int{math.MinInt, -1, 0, 1, len(b), len(b) + 1, math.MaxInt} {
			for _, n := range []int{math.MinInt, -1, 0, 1, 2, 9, maxLength, maxLength + 1, math.MaxInt} {
				for _, i := range []int{math.MinInt, -1, 0, 1, 8, maxLength, math.MaxInt} {
					if got, e := frameref.At(b, offset, n, i); e != api.OK && got != 0 {
						t.Fatalf("At(%x, %d, %d, %d) = %d beside error %d", b, offset, n, i, got, e)
					}
				}
			}
		}
	}
}

// P8.4

func TestDecodeInvertsEncodeBetweenOtherBytes(t *testing.T) {
	for _, values := range samples() {
		b := frameref.Encode(values)
		for _, before := range [][]byte{nil, {0}, {0x80, 255, 3}} {
			for _, after := range [][]byte{nil, {0}, {255}, {1, 0x80, 7, 0}} {
				checkDecoded(t, slices.Concat(before, b, after), len(before), values, len(before)+len(b))
			}
		}
	}
}

func TestAtAgreesWithDecode(t *testing.T) {
	for _, values := range append(samples(), longLists()...) {
		encoded := frameref.Encode(values)
		b := slices.Concat([]byte{255, 7}, encoded, []byte{0x80, 1})
		decoded, _, e := frameref.Decode(b, 2, len(values))
		if e != api.OK {
			t.Fatalf("Decode of %d values has error %d", len(values), e)
		}
		step := 1 + len(values)/300
		for i := 0; i < len(values); i += step {
			if got, e := frameref.At(b, 2, len(values), i); got != decoded[i] || e != api.OK {
				t.Fatalf("At(%d) of %d values = %d, %d, want %d", i, len(values), got, e, decoded[i])
			}
		}
	}
}

// P8.5

func TestEqualValuesTakeEquallyManyBytes(t *testing.T) {
	for _, v := range []int64{0, 1, -1, 63, 64, -65, 1 << 40, math.MinInt64, math.MaxInt64} {
		want := len(binary.AppendVarint(nil, v)) + 2
		for _, n := range []int{1, 2, 3, 7, 8, 9, 64, 127, 128, 4096, maxLength, maxLength + 1, maxPacked, maxPacked + 1} {
			values := slices.Repeat([]int64{v}, n)
			if got := frameref.Size(values); got != want || len(frameref.Encode(values)) != want {
				t.Errorf("%d values of %d take %d bytes, want %d", n, v, got, want)
			}
		}
	}
}

func TestNoWidthIsShorter(t *testing.T) {
	for _, values := range samples() {
		size := len(frameref.Encode(values))
		for width := range 65 {
			if other := encodeWith(values, width); len(other) < size {
				t.Fatalf("Encode(%d) has %d bytes, but width %d takes %d", values, size, width, len(other))
			}
		}
	}
}

func TestAddingAConstantKeepsTheWidth(t *testing.T) {
	shifted := 0
	for _, values := range append(samples(), longLists()...) {
		base, width := frameref.Best(values)
		for _, constant := range []int64{1, -1, 63, -64, 1000, -70000, 1 << 40, 1 << 62, math.MinInt64, math.MaxInt64, math.MinInt64 - base, -base} {
			others, ok := add(values, constant)
			if !ok || len(values) == 0 {
				continue
			}
			shifted++
			if b, w := frameref.Best(others); w != width || b != base+constant {
				t.Fatalf("Best is %d, %d after %d was added to %d values, and %d, %d before", b, w, constant, len(values), base, width)
			}
		}
	}
	if shifted < 1000 {
		t.Errorf("only %d lists were tried", shifted)
	}
}

// add adds the constant to all values, and reports whether no sum overflows.
func add(values []int64, constant int64) ([]int64, bool) {
	sums := make([]int64, len(values))
	for i, v := range values {
		sums[i] = v + constant
		if (sums[i] < v) != (constant < 0) {
			return nil, false
		}
	}
	return sums, true
}

func TestResultsShareNoMemory(t *testing.T) {
	values := []int64{0, 1, 0, 1, 0, 1, 0, 900}
	b := frameref.Encode(values)
	kept := slices.Clone(b)
	first, _, _ := frameref.Decode(b, 0, len(values))
	first[0] = 9
	checkDecoded(t, b, 0, values, len(b))
	second, _, _ := frameref.Decode(b, 0, len(values))
	clear(b)
	if !slices.Equal(second, values) || !bytes.Equal(frameref.Encode(values), kept) {
		t.Errorf("a result changed with the bytes: %d", second)
	}
}
