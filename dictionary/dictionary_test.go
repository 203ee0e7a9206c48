package dictionary_test

import (
	"bytes"
	"encoding/binary"
	"math"
	"slices"
	"strconv"
	"strings"
	"testing"

	"lamina/api"
	"lamina/dictionary"
	"lamina/value"
)

const maxLength = 65536

// comparisons are the operators for which Range finds words.
var comparisons = []int{api.OpEq, api.OpLt, api.OpLe, api.OpGt, api.OpGe}

// sequences returns all sequences of up to length elements of the alphabet.
func sequences[T any](alphabet []T, length int) [][]T {
	all := [][]T{{}}
	for start := 0; length > 0; length-- {
		end := len(all)
		for _, s := range all[start:end] {
			for _, x := range alphabet {
				all = append(all, append(slices.Clone(s), x))
			}
		}
		start = end
	}
	return all
}

// texts returns strings that are prefixes of others, that are not UTF-8, and that are as long as the limits of a varint and of a Text.
func texts() []string {
	list := []string{"", "a", "b", "ab", "aa", "B", "\x00", "\x00\x00", "a\x00", "\xff", "\x7f", "\x80", "é", "e"}
	for _, n := range []int{127, 128, api.MaxText - 1, api.MaxText} {
		list = append(list, strings.Repeat("x", n), strings.Repeat("x", n-1)+"y", strings.Repeat("\xff", n))
	}
	return list
}

// word returns a string of its own for each number; the order of the strings is not the order of the numbers.
func word(i int) string {
	return strconv.FormatUint(uint64(i)*2654435761%(1<<32), 36)
}

// mixtures returns lists of n strings of k distinct ones: one after the other again and again, in runs, by chance, and in runs of which one is long.
func mixtures(n, k int) [][]string {
	list := make([][]string, 4)
	mixed := uint64(n + k)
	for i := range n {
		mixed = mixed*6364136223846793005 + 1442695040888963407
		for j, chosen := range []int{i % k, i * k / n, int(mixed>>33) % k, max(0, i-n+k)} {
			list[j] = append(list[j], word(chosen))
		}
	}
	return list
}

// samples returns short lists in great number, and lists of which the codes have different widths.
func samples() [][]string {
	list := sequences([]string{"b", "", "a", "ab"}, 5)
	list = append(list, sequences([]string{"\x00", "\xff", "a\x00", "a", "é"}, 3)...)
	list = append(list, texts(), slices.Repeat(texts(), 3))
	for _, n := range []int{6, 8, 20, 39, 40, 41, 64, 127, 128, 129, 300} {
		for _, k := range []int{1, 2, 3, 4, 5, 8, 9, 16, 17, 127, 128, 129, 256, 257} {
			if k <= n {
				list = append(list, mixtures(n, k)...)
			}
		}
	}
	return list
}

// longLists returns lists at the limit of the encoding, and others of many strings.
func longLists() [][]string {
	var list [][]string
	for _, n := range []int{4096, maxLength - 1, maxLength} {
		for _, k := range []int{1, 2, 257, n/2 + 1, n} {
			list = append(list, mixtures(n, k)...)
		}
	}
	return list
}

// wordsOf puts the strings in order and leaves out those that are there already.
func wordsOf(values []string) []string {
	sorted := slices.Clone(values)
	slices.SortFunc(sorted, strings.Compare)
	return slices.Compact(sorted)
}

// codesOf returns the number of words that are less than each string.
func codesOf(words, values []string) []int {
	codes := make([]int, len(values))
	for i, s := range values {
		low, high := 0, len(words)
		for low < high {
			if middle := (low + high) / 2; words[middle] < s {
				low = middle + 1
			} else {
				high = middle
			}
		}
		codes[i] = low
	}
	return codes
}

// width returns how often the greatest code can be halved until it is 0.
func width(words int) int {
	n := 0
	for greatest := words - 1; greatest > 0; greatest /= 2 {
		n++
	}
	return n
}

// packed writes the codes bit by bit.
func packed(codes []int, width int) []byte {
	b := make([]byte, (len(codes)*width+7)/8)
	for i, code := range codes {
		for k := range width {
			if position := i*width + k; code>>k%2 == 1 {
				b[position/8] += 1 << (position % 8)
			}
		}
	}
	return b
}

// runs writes the steps between the runs of the codes, and their lengths.
func runs(codes []int) []byte {
	count, previous, b := 0, 0, []byte{}
	for start := 0; start < len(codes); {
		end := start
		for end < len(codes) && codes[end] == codes[start] {
			end++
		}
		b = binary.AppendVarint(b, int64(codes[start]-previous)) // is the varint of the zigzag number
		b = binary.AppendUvarint(b, uint64(end-start))
		count, previous, start = count+1, codes[start], end
	}
	return append(binary.AppendUvarint(nil, uint64(count)), b...)
}

// forms returns the encoding with packed codes and the one with runs of codes.
func forms(values []string) [2][]byte {
	words := wordsOf(values)
	codes := codesOf(words, values)
	b := binary.AppendUvarint(nil, uint64(len(words)))
	for _, w := range words {
		b = append(binary.AppendUvarint(b, uint64(len(w))), w...)
	}
	return [2][]byte{
		slices.Concat(b, []byte{0}, packed(codes, width(len(words)))),
		slices.Concat(b, []byte{1}, runs(codes)),
	}
}

// encode returns the form that is chosen.
func encode(values []string) []byte {
	list := forms(values)
	if len(list[1]) < len(list[0]) {
		return list[1]
	}
	return list[0]
}

// checkDecoded fails unless Decode finds the values at offset and ends at next.
func checkDecoded(t *testing.T, b []byte, offset int, values []string, next int) {
	t.Helper()
	got, end, e := dictionary.Decode(b, offset, len(values))
	if e != api.OK || end != next || !slices.Equal(got, values) {
		t.Fatalf("Decode of %d values at %d has %d, offset %d, error %d, want offset %d", len(values), offset, len(got), end, e, next)
	}
}

// checkRefused fails unless Decode reports the error, and nothing beside it.
func checkRefused(t *testing.T, name string, b []byte, offset, n int, want api.Errno) {
	t.Helper()
	if got, next, e := dictionary.Decode(b, offset, n); e != want || next != 0 || len(got) != 0 {
		t.Errorf("%s: Decode(%.40x, %d, %d) has %d values, offset %d, error %d, want error %d", name, b, offset, n, len(got), next, e, want)
	}
}

// P10.1

func TestBuildOfAFewValues(t *testing.T) {
	for _, c := range []struct {
		values, words []string
		codes         []int
	}{
		{nil, nil, nil},
		{[]string{}, nil, nil},
		{[]string{""}, []string{""}, []int{0}},
		{[]string{"a"}, []string{"a"}, []int{0}},
		{[]string{"a", "a"}, []string{"a"}, []int{0, 0}},
		{[]string{"b", "a", "b"}, []string{"a", "b"}, []int{1, 0, 1}},
		{[]string{"c", "b", "a"}, []string{"a", "b", "c"}, []int{2, 1, 0}},
		{[]string{"ab", "a", "", "b", "a"}, []string{"", "a", "ab", "b"}, []int{2, 1, 0, 3, 1}},
		{[]string{"a", "B"}, []string{"B", "a"}, []int{1, 0}},
		{[]string{"\xff", "é", "\x00", "a\x00", "a"}, []string{"\x00", "a", "a\x00", "é", "\xff"}, []int{4, 3, 0, 2, 1}},
	} {
		words, codes := dictionary.Build(c.values)
		if !slices.Equal(words, c.words) || !slices.Equal(codes, c.codes) {
			t.Errorf("Build(%q) = %q, %d, want %q, %d", c.values, words, codes, c.words, c.codes)
		}
	}
}

func TestBuildAgreesWithTheModel(t *testing.T) {
	for _, values := range append(samples(), longLists()...) {
		before := slices.Clone(values)
		words, codes := dictionary.Build(values)
		if want := wordsOf(values); !slices.Equal(words, want) {
			t.Fatalf("Build of %d values has %d words, want %d", len(values), len(words), len(want))
		}
		if !slices.Equal(codes, codesOf(words, values)) {
			t.Fatalf("Build of %d values has other codes", len(values))
		}
		if !slices.Equal(values, before) {
			t.Fatalf("%d values were changed", len(values))
		}
	}
}

func TestFindAndRangeOfAFewWords(t *testing.T) {
	for _, c := range []struct {
		words []string
		s     string
		index int
		found bool
		want  [5][2]int // of =, <, <=, >, >=
	}{
		{nil, "", 0, false, [5][2]int{}},
		{nil, "a", 0, false, [5][2]int{}},
		{[]string{""}, "", 0, true, [5][2]int{{0, 1}, {0, 0}, {0, 1}, {1, 1}, {0, 1}}},
		{[]string{""}, "a", 0, false, [5][2]int{{1, 1}, {0, 1}, {0, 1}, {1, 1}, {1, 1}}},
		{[]string{"a"}, "", 0, false, [5][2]int{{0, 0}, {0, 0}, {0, 0}, {0, 1}, {0, 1}}},
		{[]string{"a", "c"}, "0", 0, false, [5][2]int{{0, 0}, {0, 0}, {0, 0}, {0, 2}, {0, 2}}},
		{[]string{"a", "c"}, "a", 0, true, [5][2]int{{0, 1}, {0, 0}, {0, 1}, {1, 2}, {0, 2}}},
		{[]string{"a", "c"}, "b", 0, false, [5][2]int{{1, 1}, {0, 1}, {0, 1}, {1, 2}, {1, 2}}},
		{[]string{"a", "c"}, "c", 1, true, [5][2]int{{1, 2}, {0, 1}, {0, 2}, {2, 2}, {1, 2}}},
		{[]string{"a", "c"}, "ca", 0, false, [5][2]int{{2, 2}, {0, 2}, {0, 2}, {2, 2}, {2, 2}}},
		{[]string{"a", "ab", "b"}, "ab", 1, true, [5][2]int{{1, 2}, {0, 1}, {0, 2}, {2, 3}, {1, 3}}},
		{[]string{"a", "ab", "b"}, "a\x00", 0, false, [5][2]int{{1, 1}, {0, 1}, {0, 1}, {1, 3}, {1, 3}}},
		{[]string{"a", "é", "\xff"}, "\xff", 2, true, [5][2]int{{2, 3}, {0, 2}, {0, 3}, {3, 3}, {2, 3}}},
	} {
		if index, found := dictionary.Find(c.words, c.s); index != c.index || found != c.found {
			t.Errorf("Find(%q, %q) = %d, %t", c.words, c.s, index, found)
		}
		for k, op := range comparisons {
			if from, to := dictionary.Range(c.words, op, c.s); from != c.want[k][0] || to != c.want[k][1] {
				t.Errorf("Range(%q, %d, %q) = %d, %d, want %d", c.words, op, c.s, from, to, c.want[k])
			}
		}
	}
}

func TestRangeOfOtherOperators(t *testing.T) {
	others := []int{api.OpNe, 0, -1, -2, math.MinInt, math.MaxInt, api.PredIsNull, api.PredNotNull, 100, 1 << 32, 1<<32 + 1, 1<<32 + 3}
	for op := api.OpAnd; op <= api.OpLike; op++ {
		others = append(others, op)
	}
	for _, words := range [][]string{nil, {""}, {"a", "c"}, wordsOf(texts())} {
		for _, s := range []string{"", "a", "b", "c", "\xff\xff"} {
			for _, op := range others {
				if from, to := dictionary.Range(words, op, s); from != 0 || to != 0 {
					t.Errorf("Range(%d words, %d, %q) = %d, %d", len(words), op, s, from, to)
				}
			}
		}
	}
}

func TestFindAndRangeAgreeWithTheCounts(t *testing.T) {
	for _, values := range append(samples(), texts()) {
		words := wordsOf(values)
		before := slices.Clone(words)
		for _, s := range append(texts(), values...) {
			less, lessOrEqual, n := 0, 0, len(words)
			for _, w := range words {
				if order := strings.Compare(w, s); order < 0 {
					less++
					lessOrEqual++
				} else if order == 0 {
					lessOrEqual++
				}
			}
			want := 0
			if less < lessOrEqual {
				want = less
			}
			if index, found := dictionary.Find(words, s); index != want || found != (less < lessOrEqual) {
				t.Fatalf("Find(%d words, %.40q) = %d, %t", n, s, index, found)
			}
			for k, want := range [][2]int{{less, lessOrEqual}, {0, less}, {0, lessOrEqual}, {lessOrEqual, n}, {less, n}} {
				if from, to := dictionary.Range(words, comparisons[k], s); from != want[0] || to != want[1] {
					t.Fatalf("Range(%d words, %d, %.40q) = %d, %d, want %d", n, comparisons[k], s, from, to, want)
				}
			}
		}
		if !slices.Equal(words, before) {
			t.Fatalf("%d words were changed", len(words))
		}
	}
}

// P10.2

func TestEncodingOfAFewValues(t *testing.T) {
	repeat := func(a, b int) []string {
		return append(slices.Repeat([]string{"a"}, a), slices.Repeat([]string{"b"}, b)...)
	}
	long := strings.Repeat("x", 300)
	for _, c := range []struct {
		values []string
		want   string
	}{
		{nil, "\x00\x00"},
		{[]string{}, "\x00\x00"},
		{[]string{""}, "\x01\x00\x00"},
		{[]string{"a"}, "\x01\x01a\x00"},
		{[]string{"b", "a", "b"}, "\x02\x01a\x01b\x00\x05"},
		{[]string{"", "b"}, "\x02\x00\x01b\x00\x02"},
		{[]string{"c", "b", "a"}, "\x03\x01a\x01b\x01c\x00\x06"},
		{[]string{"d", "c", "b", "a"}, "\x04\x01a\x01b\x01c\x01d\x00\x1b"},
		{[]string{"e", "a", "b", "c", "d"}, "\x05\x01a\x01b\x01c\x01d\x01e\x00\x44\x34"},
		{[]string{long, "a"}, "\x02\x01a\xac\x02" + long + "\x00\x01"},
		// Codes without bits are shorter than a run.
		{repeat(maxLength, 0), "\x01\x01a\x00"},
		// The forms are equally long.
		{repeat(20, 20), "\x02\x01a\x01b\x00\x00\x00\xf0\xff\xff"},
		{repeat(1, 39), "\x02\x01a\x01b\x00\xfe\xff\xff\xff\xff"},
		// The runs are shorter.
		{repeat(20, 21), "\x02\x01a\x01b\x01\x02\x00\x14\x02\x15"},
		{append(repeat(0, 100), "a"), "\x02\x01a\x01b\x01\x02\x02\x64\x01\x01"},
		{repeat(maxLength-1, 1), "\x02\x01a\x01b\x01\x02\x00\xff\xff\x03\x02\x01"},
	} {
		if got := dictionary.Encode(c.values); string(got) != c.want {
			t.Errorf("Encode(%.40q) = %x, want %x", c.values, got, c.want)
		}
		if got := dictionary.Size(c.values); got != len(c.want) {
			t.Errorf("Size(%.40q) = %d, want %d", c.values, got, len(c.want))
		}
	}
}

func TestEncodingAgreesWithTheModel(t *testing.T) {
	for _, values := range append(samples(), longLists()...) {
		before := slices.Clone(values)
		want := encode(values)
		if got := dictionary.Encode(values); !bytes.Equal(got, want) {
			t.Fatalf("Encode of %d values has %d bytes, want %d", len(values), len(got), len(want))
		}
		if got := dictionary.Size(values); got != len(want) {
			t.Fatalf("Size of %d values = %d, want %d", len(values), got, len(want))
		}
		if !slices.Equal(values, before) {
			t.Fatalf("%d values were changed", len(values))
		}
	}
}

func TestTheShorterFormIsChosenAndForm0OfEqualOnes(t *testing.T) {
	shorter, equal, longer := 0, 0, 0
	for ones := range 60 {
		for others := range 60 {
			values := append(slices.Repeat([]string{"b"}, ones), slices.Repeat([]string{"a"}, others)...)
			list, chosen := forms(values), 0
			switch {
			case len(list[1]) < len(list[0]):
				shorter, chosen = shorter+1, 1
			case len(list[1]) == len(list[0]):
				equal++
			default:
				longer++
			}
			if got := dictionary.Encode(values); !bytes.Equal(got, list[chosen]) {
				t.Fatalf("Encode of %d and %d equal strings = %x, want %x", ones, others, got, list[chosen])
			}
		}
	}
	if min(shorter, equal, longer) < 100 {
		t.Errorf("form 1 is shorter %d times, equal %d times and longer %d times", shorter, equal, longer)
	}
}

// P10.3

func TestDecodeOfAFewEncodings(t *testing.T) {
	for _, c := range []struct {
		b    string
		want []string
	}{
		{"\x00\x00", nil},
		{"\x01\x00\x00", []string{""}},
		{"\x01\x01a\x00", []string{"a"}},
		{"\x01\x01a\x00", []string{"a", "a", "a", "a", "a", "a", "a", "a", "a"}},
		{"\x02\x01a\x01b\x00\x05", []string{"b", "a", "b"}},
		{"\x02\x01a\x01b\x00\x05", []string{"b", "a", "b", "a", "a", "a", "a", "a"}},
		{"\x02\x00\x01b\x00\x02", []string{"", "b"}},
		{"\x03\x01a\x01b\x01c\x00\x06", []string{"c", "b", "a"}},
		{"\x02\x01a\x01b\x01\x02\x02\x64\x01\x01", append(slices.Repeat([]string{"b"}, 100), "a")},
		{"\x02\x01a\x01b\x01\x02\x00\xff\xff\x03\x02\x01", append(slices.Repeat([]string{"a"}, maxLength-1), "b")},
		{"\x01\x80\x20" + strings.Repeat("x", api.MaxText) + "\x00", slices.Repeat([]string{strings.Repeat("x", api.MaxText)}, maxLength)},
	} {
		checkDecoded(t, []byte(c.b), 0, c.want, len(c.b))
		for cut := range len(c.b) {
			checkRefused(t, "cut", []byte(c.b[:cut]), 0, len(c.want), api.ErrShort)
		}
	}
}

func TestDecodeWithArgumentsOutOfRange(t *testing.T) {
	for _, s := range []string{"", "\x00", "\x00\x00", "\x80", "\x80\x00", "\x01\x01a\x00", "\x02\x01a\x01b\x00\x05", "\xff\xff\xff\xff\xff\xff\xff\xff\xff\xff\xff"} {
		b := []byte(s)
		for _, offset := range []int{math.MinInt, math.MinInt + 1, -maxLength, -2, -1, len(b) + 1, len(b) + 2, maxLength, math.MaxInt - 1, math.MaxInt} {
			for _, n := range []int{math.MinInt, -1, 0, 1, 3, maxLength, maxLength + 1, math.MaxInt} {
				checkRefused(t, "offset", b, offset, n, api.ErrArg)
			}
		}
		for _, n := range []int{math.MinInt, math.MinInt + 1, -maxLength, -2, -1, maxLength + 1, maxLength + 2, 1 << 32, 1<<32 + 1, math.MaxInt - 1, math.MaxInt} {
			for offset := range len(b) + 1 {
				checkRefused(t, "n", b, offset, n, api.ErrArg)
			}
		}
		for _, n := range []int{0, 1, 3, maxLength} {
			checkRefused(t, "no byte at offset", b, len(b), n, api.ErrShort)
		}
	}
}

func TestDecodeReportsTheFirstError(t *testing.T) {
	full, over := strings.Repeat("x", api.MaxText), strings.Repeat("x", api.MaxText+1)
	huge := "\xff\xff\xff\xff\xff\xff\xff\xff\xff\x01" // 2^64 - 1
	beyond := strings.Repeat("\xff", 10)               // no varint: more than 64 bits
	for _, c := range []struct {
		name, b string
		n       int
		want    api.Errno
	}{
		{"number of words missing", "", 0, api.ErrShort},
		{"number of words cut", "\x80", 0, api.ErrShort},
		{"number of words too long", "\x80\x00\x00", 0, api.ErrFormat},
		{"number of words beyond 64 bits", beyond, 5, api.ErrFormat},
		{"1 word of no values", "\x01", 0, api.ErrRange},
		{"1 word of no values, all there", "\x01\x01a\x00", 0, api.ErrRange},
		{"2 words of 1 value, and nothing else", "\x02", 1, api.ErrRange},
		{"65536 words of 65535 values", "\x80\x80\x04", maxLength - 1, api.ErrRange},
		{"65537 words of 65536 values", "\x81\x80\x04", maxLength, api.ErrRange},
		{"65536 words of 65536 values", "\x80\x80\x04", maxLength, api.ErrShort},
		{"2^64-1 words", huge, maxLength, api.ErrRange},
		{"length missing", "\x01", 1, api.ErrShort},
		{"length cut", "\x01\x80", 1, api.ErrShort},
		{"length too long", "\x01\x81\x00a\x00", 1, api.ErrFormat},
		{"length beyond 64 bits", "\x01" + beyond, 1, api.ErrFormat},
		{"length beyond a Text, and no bytes", "\x01\x81\x20", 1, api.ErrLong},
		{"length beyond a Text, and all bytes", "\x01\x81\x20" + over + "\x00", 1, api.ErrLong},
		{"length of a Text, and no bytes", "\x01\x80\x20", 1, api.ErrShort},
		{"length of a Text, and a byte too few", "\x01\x80\x20" + full[1:], 1, api.ErrShort},
		{"length 2^64-1", "\x01" + huge, 1, api.ErrLong},
		{"length 2^63", "\x01\x80\x80\x80\x80\x80\x80\x80\x80\x80\x01", 1, api.ErrLong},
		{"word cut", "\x01\x02a", 1, api.ErrShort},
		{"equal words", "\x02\x01a\x01a\x00\x00", 2, api.ErrFormat},
		{"equal empty words", "\x02\x00\x00\x00\x00", 2, api.ErrFormat},
		{"words that fall", "\x02\x01b\x01a\x00\x02", 2, api.ErrFormat},
		{"words that fall, and then nothing", "\x03\x01b\x01a", 3, api.ErrFormat},
		{"an empty word after another", "\x02\x01a\x00\x00\x02", 2, api.ErrFormat},
		{"a prefix after the longer word", "\x02\x02ab\x01a\x00\x02", 2, api.ErrFormat},
		{"third word equals the first", "\x03\x01a\x01b\x01a\x00\x24", 3, api.ErrFormat},
		{"a cut word that would fall", "\x02\x02ba\x02a", 2, api.ErrShort},
		{"a word too long that would fall", "\x02\x01b\x81\x20a", 2, api.ErrLong},
		{"second length missing", "\x02\x01a", 2, api.ErrShort},
		{"form missing", "\x01\x01a", 1, api.ErrShort},
		{"form of no values missing", "\x00", 0, api.ErrShort},
		{"form 2", "\x01\x01a\x02", 1, api.ErrFormat},
		{"form 255 of no values", "\x00\xff", 0, api.ErrFormat},
		{"form 0: codes missing", "\x02\x01a\x01b\x00", 2, api.ErrShort},
		{"form 0: codes cut", "\x02\x01a\x01b\x00\xff", 9, api.ErrShort},
		{"form 0: codes cut, of no word", "\x03\x01a\x01b\x01c\x00\xff", 5, api.ErrShort},
		{"form 0: an unused bit", "\x02\x01a\x01b\x00\x0d", 3, api.ErrFormat},
		{"form 0: an unused bit, and a code of no word", "\x03\x01a\x01b\x01c\x00\x7b", 3, api.ErrFormat},
		{"form 0: no words", "\x00\x00", 1, api.ErrRange},
		{"form 0: no words of many values", "\x00\x00", maxLength, api.ErrRange},
		{"form 0: a code of no word", "\x03\x01a\x01b\x01c\x00\x34", 3, api.ErrRange},
		{"form 0: only codes of no word", "\x03\x01a\x01b\x01c\x00\x3f", 3, api.ErrRange},
		{"form 0: a word without a code", "\x02\x01a\x01b\x00\x00", 2, api.ErrFormat},
		{"form 0: no code of the last word", "\x03\x01a\x01b\x01c\x00\x04", 3, api.ErrFormat},
		{"form 0: longer than form 1", "\x02\x01a\x01b\x00\x00\x00\xf0\xff\xff\x01", 41, api.ErrFormat},
		{"form 1: number of runs missing", "\x01\x01a\x01", 1, api.ErrShort},
		{"form 1: number of runs cut", "\x01\x01a\x01\x80", 1, api.ErrShort},
		{"form 1: number of runs too long", "\x01\x01a\x01\x81\x00\x00\x01", 1, api.ErrFormat},
		{"form 1: 65537 runs", "\x01\x01a\x01\x81\x80\x04", 1, api.ErrRange},
		{"form 1: run missing", "\x01\x01a\x01\x01", 1, api.ErrShort},
		{"form 1: count missing", "\x01\x01a\x01\x01\x00", 1, api.ErrShort},
		{"form 1: count 0", "\x01\x01a\x01\x01\x00\x00", 1, api.ErrRange},
		{"form 1: count 65537", "\x01\x01a\x01\x01\x00\x81\x80\x04", 1, api.ErrRange},
		{"form 1: equal runs", "\x01\x01a\x01\x02\x00\x01\x00\x01", 2, api.ErrFormat},
		{"form 1: no values of 1", "\x01\x01a\x01\x00", 1, api.ErrCount},
		{"form 1: 1 value of none", "\x00\x01\x01\x00\x01", 0, api.ErrCount},
		{"form 1: 1 value of 2", "\x01\x01a\x01\x01\x00\x01", 2, api.ErrCount},
		{"form 1: 2 values of 1", "\x01\x01a\x01\x01\x00\x02", 1, api.ErrCount},
		{"form 1: too few codes, of no word", "\x01\x01a\x01\x01\x04\x01", 2, api.ErrCount},
		{"form 1: no words", "\x00\x01\x01\x00\x01", 1, api.ErrRange},
		{"form 1: the code after the last", "\x01\x01a\x01\x01\x02\x01", 1, api.ErrRange},
		{"form 1: code -1", "\x01\x01a\x01\x01\x01\x01", 1, api.ErrRange},
		{"form 1: code -2^63", "\x01\x01a\x01\x01" + huge + "\x01", 1, api.ErrRange},
		{"form 1: code 2^63-1", "\x01\x01a\x01\x01\xfe" + huge[1:] + "\x01", 1, api.ErrRange},
		{"form 1: code 2^32", "\x01\x01a\x01\x01\x80\x80\x80\x80\x20\x01", 1, api.ErrRange},
		{"form 1: a code of no word after others", "\x02\x01a\x01b\x01\x03\x00\x28\x02\x28\x02\x01", 81, api.ErrRange},
		{"form 1: a word without a code", "\x03\x01a\x01b\x01c\x01\x02\x00\x28\x02\x28", 80, api.ErrFormat},
		{"form 1: no values, but form 0 is shorter", "\x00\x01\x00", 0, api.ErrFormat},
		{"form 1: as long as form 0", "\x02\x01a\x01b\x01\x02\x00\x14\x02\x14", 40, api.ErrFormat},
		{"form 1: longer than form 0", "\x01\x01a\x01\x01\x00\x01", 1, api.ErrFormat},
	} {
		checkRefused(t, c.name, []byte(c.b), 0, c.n, c.want)
		checkRefused(t, c.name, []byte("\x02\x80"+c.b), 2, c.n, c.want)
	}
}

func TestDecodeOfAnotherForm(t *testing.T) {
	for form := range 256 {
		if form > 1 {
			checkRefused(t, "form", []byte{1, 1, 'a', byte(form)}, 0, 1, api.ErrFormat)
			checkRefused(t, "form, and codes", []byte{2, 1, 'a', 1, 'b', byte(form), 5}, 0, 3, api.ErrFormat)
			checkRefused(t, "form, and runs", []byte{2, 1, 'a', 1, 'b', byte(form), 2, 0, 21, 2, 20}, 0, 41, api.ErrFormat)
		}
	}
}

func TestDecodeRefusesTheFormThatIsNotChosen(t *testing.T) {
	refused := [2]int{}
	for _, values := range append(samples(), longLists()...) {
		chosen := encode(values)
		for k, b := range forms(values) {
			if bytes.Equal(b, chosen) {
				continue
			}
			refused[k]++
			if got, next, e := dictionary.Decode(b, 0, len(values)); e != api.ErrFormat || next != 0 || len(got) != 0 {
				t.Fatalf("Decode of form %d of %d values has %d, offset %d, error %d", k, len(values), len(got), next, e)
			}
		}
	}
	if min(refused[0], refused[1]) < 50 {
		t.Errorf("only %d of form 0 and %d of form 1 were tried", refused[0], refused[1])
	}
}

// input is what the model has still to read, and the first error in what it has read.
type input struct {
	rest []byte
	e    api.Errno
}

// fail keeps the first error only.
func (in *input) fail(when bool, e api.Errno) {
	if when && in.e == api.OK {
		in.e = e
	}
}

// number reads a varint; only the shortest one of a number is accepted.
func (in *input) number() uint64 {
	if in.e != api.OK {
		return 0
	}
	n, size := binary.Uvarint(in.rest)
	in.fail(size == 0 && len(in.rest) < 10, api.ErrShort)
	in.fail(size <= 0 || size > 1 && in.rest[size-1] == 0, api.ErrFormat)
	in.rest = in.rest[max(0, size):]
	return n
}

// take reads bytes.
func (in *input) take(size int) []byte {
	in.fail(len(in.rest) < size, api.ErrShort)
	if in.e != api.OK {
		return nil
	}
	b := in.rest[:size]
	in.rest = in.rest[size:]
	return b
}

// words reads a dictionary.
func (in *input) words(n int) []string {
	var words []string
	count := in.number()
	in.fail(count > uint64(n), api.ErrRange)
	for i := 0; in.e == api.OK && uint64(i) < count; i++ {
		size := in.number()
		in.fail(size > api.MaxText, api.ErrLong)
		words = append(words, string(in.take(int(min(size, api.MaxText)))))
		in.fail(i > 0 && words[i] <= words[max(0, i-1)], api.ErrFormat)
	}
	return words
}

// packed reads n codes bit by bit.
func (in *input) packed(n, width int) []int64 {
	b := in.take((n*width + 7) / 8)
	codes := make([]int64, n)
	for position := range 8 * len(b) {
		bit := int64(b[position/8]>>(position%8)) & 1
		in.fail(position >= n*width && bit == 1, api.ErrFormat)
		if position < n*width {
			codes[position/width] += bit << (position % width)
		}
	}
	return codes
}

// runs reads runs of codes.
func (in *input) runs(n int) []int64 {
	var codes []int64
	count, code := in.number(), int64(0)
	in.fail(count > maxLength, api.ErrRange)
	for i := uint64(0); in.e == api.OK && i < count; i++ {
		step := in.number()
		in.fail(i > 0 && step == 0, api.ErrFormat)
		length := in.number()
		in.fail(length < 1 || length > uint64(maxLength-len(codes)), api.ErrRange)
		code += int64(step / 2)
		if step%2 == 1 {
			code -= int64(step/2) + int64(step/2) + 1
		}
		if in.e == api.OK {
			codes = append(codes, slices.Repeat([]int64{code}, int(length))...)
		}
	}
	in.fail(len(codes) != n, api.ErrCount)
	return codes
}

// decode reads part by part, and then asks whether the values are encoded so.
func decode(b []byte, offset, n int) ([]string, int, api.Errno) {
	in := input{rest: b[offset:]}
	words := in.words(n)
	form := in.take(1)
	var codes []int64
	switch {
	case in.e != api.OK:
		return nil, 0, in.e
	case form[0] == 0:
		codes = in.packed(n, width(len(words)))
	case form[0] == 1:
		codes = in.runs(n)
	default:
		return nil, 0, api.ErrFormat
	}
	var values []string
	for _, code := range codes {
		in.fail(code < 0 || code >= int64(len(words)), api.ErrRange)
		if in.e == api.OK {
			values = append(values, words[code])
		}
	}
	if in.e == api.OK {
		in.fail(!bytes.Equal(encode(values), b[offset:len(b)-len(in.rest)]), api.ErrFormat)
	}
	if in.e != api.OK {
		return nil, 0, in.e
	}
	return values, len(b) - len(in.rest), api.OK
}

// checkAgainstModel compares Decode with decode and returns whether b was accepted; what is accepted is encoded to the same bytes.
func checkAgainstModel(t *testing.T, b []byte, offset, n int) bool {
	t.Helper()
	got, next, e := dictionary.Decode(b, offset, n)
	want, wantNext, wantE := decode(b, offset, n)
	if e != wantE || next != wantNext || !slices.Equal(got, want) {
		t.Fatalf("Decode(%.40x, %d, %d) = %.40q, %d, %d, want %.40q, %d, %d", b, offset, n, got, next, e, want, wantNext, wantE)
	}
	if e == api.OK && !bytes.Equal(dictionary.Encode(got), b[offset:next]) {
		t.Fatalf("%.40x is decoded to %.40q, which is encoded as %.40x", b[offset:], got, dictionary.Encode(got))
	}
	return e == api.OK
}

// TestDecodeAgreesWithTheModel tries all short sequences of bytes that matter: small numbers, forms, and bytes that others follow.
func TestDecodeAgreesWithTheModel(t *testing.T) {
	short := 0
	for _, b := range sequences([]byte{0, 1, 2, 3, 128, 255}, 6) {
		for n := range 5 {
			if checkAgainstModel(t, b, 0, n) {
				short++
			}
		}
	}
	if short < 1000 {
		t.Errorf("only %d short sequences were accepted", short)
	}
	for k, c := range []struct {
		n    int
		with func(x, y byte) []byte
	}{
		{2, func(x, y byte) []byte { return []byte{2, 1, x, 1, y, 0, 2} }},
		{13, func(x, y byte) []byte { return []byte{2, 1, 'a', 1, 'b', 0, x, y} }},
		{7, func(x, y byte) []byte { return []byte{3, 1, 'a', 1, 'b', 1, 'c', 0, x, y} }},
		{3, func(x, y byte) []byte { return []byte{x, 1, 'a', 1, 'b', 1, 'c', 0, y} }},
		{48, func(x, y byte) []byte { return []byte{2, 1, 'a', 1, 'b', 1, 2, 0, 40, x, y} }},
		{55, func(x, y byte) []byte { return []byte{3, 1, 'a', 1, 'b', 1, 'c', 1, 3, x, 40, y, 5, 2, 10} }},
		{41, func(x, y byte) []byte { return []byte{2, 1, 'a', 1, 'b', x, y, 0, 20, 2, 21} }},
	} {
		accepted := 0
		for first := range 256 {
			for second := range 256 {
				if checkAgainstModel(t, c.with(byte(first), byte(second)), 0, c.n) {
					accepted++
				}
			}
		}
		if accepted == 0 {
			t.Errorf("no sequence of kind %d was accepted", k)
		}
	}
}

func TestDecodeOfDamagedEncodings(t *testing.T) {
	for k, values := range samples() {
		b := dictionary.Encode(values)
		if k%11 != 0 || len(b) > 150 {
			continue
		}
		for cut := range len(b) {
			checkRefused(t, "cut", b[:cut], 0, len(values), api.ErrShort)
		}
		for p := range 8 * len(b) {
			b[p/8] ^= 1 << (p % 8)
			checkAgainstModel(t, b, 0, len(values))
			b[p/8] ^= 1 << (p % 8)
		}
		for _, n := range []int{0, len(values) - 1, len(values) + 1, 2 * len(values)} {
			if n >= 0 {
				checkAgainstModel(t, b, 0, n)
			}
		}
		for offset := range len(b) {
			checkAgainstModel(t, b, offset, len(values))
		}
	}
}

// P10.4

func TestDecodeInvertsEncodeBetweenOtherBytes(t *testing.T) {
	for _, values := range samples() {
		b := dictionary.Encode(values)
		for _, before := range [][]byte{nil, {0}, {2, 0x80, 255}} {
			for _, after := range [][]byte{nil, {0}, {255}, {1, 0x80, 7, 0}} {
				checkDecoded(t, slices.Concat(before, b, after), len(before), values, len(before)+len(b))
			}
		}
	}
	for _, values := range longLists() {
		b := dictionary.Encode(values)
		checkDecoded(t, slices.Concat([]byte{1}, b, []byte{1}), 1, values, 1+len(b))
	}
}

func TestResultsShareNoMemory(t *testing.T) {
	for _, values := range [][]string{{"a"}, {"b", "a", "b"}, append(slices.Repeat([]string{"b"}, 100), "a")} {
		kept, b := slices.Clone(values), dictionary.Encode(values)
		encoded := slices.Clone(b)
		words, codes := dictionary.Build(values)
		first, _, _ := dictionary.Decode(b, 0, len(values))
		second, _, _ := dictionary.Decode(b, 0, len(values))
		clear(words)
		clear(codes)
		clear(first)
		clear(b) // the strings hold their own bytes
		if !slices.Equal(values, kept) || !slices.Equal(second, kept) || !bytes.Equal(dictionary.Encode(values), encoded) {
			t.Errorf("a result changed with another one: %q, %q", values, second)
		}
	}
}

// P10.5

func TestWordsCodesAndValuesAgree(t *testing.T) {
	for _, values := range append(samples(), longLists()...) {
		words, codes := dictionary.Build(values)
		if len(codes) != len(values) {
			t.Fatalf("Build of %d values has %d codes", len(values), len(codes))
		}
		used := make([]bool, len(words))
		for i, code := range codes {
			if words[code] != values[i] {
				t.Fatalf("the word of code %d is %.40q, want %.40q", code, words[code], values[i])
			}
			used[code] = true
			if index, found := dictionary.Find(words, values[i]); index != code || !found {
				t.Fatalf("Find of %.40q = %d, %t, want %d", values[i], index, found, code)
			}
		}
		if slices.Contains(used, false) {
			t.Fatalf("a word of %d does not occur in %d values", len(words), len(values))
		}
		for i := 1; i < len(words); i++ {
			if words[i-1] >= words[i] {
				t.Fatalf("the words %.40q and %.40q are not in order", words[i-1], words[i])
			}
		}
	}
}

func TestRangeAgreesWithTheComparisonsOfValues(t *testing.T) {
	text := func(s string) api.Value { return api.Value{Kind: api.Text, Text: s} }
	yes := api.Value{Kind: api.Bool, Int: 1}
	lists := [][]string{texts(), slices.Concat(mixtures(300, 257)...)}
	for _, values := range append(lists, sequences([]string{"b", "", "a", "ab", "\xff"}, 4)...) {
		words, _ := dictionary.Build(values)
		for _, s := range append(texts(), values...) {
			for _, op := range comparisons {
				from, to := dictionary.Range(words, op, s)
				for i, w := range words {
					if holds := value.Test(op, text(w), text(s)) == yes; holds != (from <= i && i < to) {
						t.Fatalf("Range(%d words, %d, %.40q) = %d, %d, but for word %d, %.40q, it holds: %t", len(words), op, s, from, to, i, w, holds)
					}
				}
			}
		}
	}
}
