package frontcode_test

import (
	"bytes"
	"encoding/binary"
	"math"
	"slices"
	"strconv"
	"strings"
	"testing"

	"lamina/api"
	"lamina/frontcode"
)

const (
	maxLength = 65536
	group     = 16 // strings from one restart point to the next
)

// sequences returns all sequences of up to length elements of the alphabet.
func sequences[T any](alphabet []T, length int) [][]T {
	all := [][]T{{}}
	for start := 0; length > 0; length-- {
		end := len(all)
		for _, s := range all[start:end] {
			for _, x := range alphabet {
				all = append(all, append(slices.Clone(s), x))
			}
		}
		start = end
	}
	return all
}

// texts returns strings that are prefixes of others, that are not UTF-8, and of which the lengths are the limits of a varint or beyond those of a Text.
func texts() []string {
	list := []string{"", "a", "b", "ab", "aa", "abc", "B", "\x00", "\x00\x00", "a\x00", "\xff", "\x7f", "\x80", "é", "è", "e"}
	for _, n := range []int{127, 128, 129, api.MaxText, api.MaxText + 1, 20000} {
		list = append(list, strings.Repeat("x", n), strings.Repeat("x", n-1)+"y", strings.Repeat("\xff", n), "x")
	}
	return list
}

// numbered returns n strings in ascending order; some of them repeat if step is 0.
func numbered(n, step int) []string {
	list := make([]string, n)
	for i := range list {
		list[i] = "row " + strconv.Itoa(1000000+i*step/2)
	}
	return list
}

// mixed returns n strings of up to length bytes a and b, by chance.
func mixed(n, length int) []string {
	list, state := make([]string, n), uint64(n+length)
	for i := range list {
		state = state*6364136223846793005 + 1442695040888963407
		size := int(state>>33) % (length + 1)
		for k := range size {
			list[i] += string(rune('a' + state>>(20+k%40)%2))
		}
	}
	return list
}

// samples returns short lists in great number, and lists that end before, at and after restart points.
func samples() [][]string {
	list := sequences([]string{"b", "", "a", "ab"}, 5)
	list = append(list, sequences([]string{"\x00", "\xff", "a\x00", "a", "aa", "é"}, 3)...)
	list = append(list, texts(), slices.Repeat(texts(), 3))
	for _, n := range []int{15, 16, 17, 18, 31, 32, 33, 47, 48, 49, 130, 300} {
		list = append(list, slices.Repeat([]string{""}, n), slices.Repeat([]string{"same"}, n))
		for _, k := range []int{1, 2, 5} {
			list = append(list, numbered(n, k), mixed(n, k), mixed(n, 9*k))
		}
	}
	return list
}

// longLists returns lists at the limit of Decode, and others of many strings.
func longLists() [][]string {
	var list [][]string
	for _, n := range []int{4096, maxLength - 1, maxLength} {
		list = append(list, slices.Repeat([]string{""}, n), numbered(n, 1), numbered(n, 3), mixed(n, 20))
	}
	return list
}

// longestPrefix shortens a until b begins with it.
func longestPrefix(a, b string) int {
	for !strings.HasPrefix(b, a) {
		a = a[:len(a)-1]
	}
	return len(a)
}

// shared returns the shared length of the string with index i.
func shared(values []string, i int) int {
	if i%group == 0 {
		return 0
	}
	return longestPrefix(values[i-1], values[i])
}

// encode returns the encoding by its definition.
func encode(values []string) []byte {
	var b []byte
	for i, s := range values {
		n := shared(values, i)
		b = binary.AppendUvarint(b, uint64(n))
		b = binary.AppendUvarint(b, uint64(len(s)-n))
		b = append(b, s[n:]...)
	}
	return b
}

// checkDecoded fails unless Decode finds the values at offset and ends at next.
func checkDecoded(t *testing.T, b []byte, offset int, values []string, next int) {
	t.Helper()
	got, end, e := frontcode.Decode(b, offset, len(values))
	if e != api.OK || end != next || !slices.Equal(got, values) {
		t.Fatalf("Decode of %d values at %d has %d, offset %d, error %d, want offset %d", len(values), offset, len(got), end, e, next)
	}
}

// checkRefused fails unless Decode reports the error, and nothing beside it.
func checkRefused(t *testing.T, name string, b []byte, offset, n int, want api.Errno) {
	t.Helper()
	if got, next, e := frontcode.Decode(b, offset, n); e != want || next != 0 || len(got) != 0 {
		t.Errorf("%s: Decode(%.40x, %d, %d) has %d values, offset %d, error %d, want error %d", name, b, offset, n, len(got), next, e, want)
	}
}

// checkAt fails unless At has this result.
func checkAt(t *testing.T, b []byte, offset, n, i int, want string, wantE api.Errno) {
	t.Helper()
	if got, e := frontcode.At(b, offset, n, i); got != want || e != wantE {
		t.Fatalf("At(%.40x, %d, %d, %d) = %.40q, %d, want %.40q, %d", b, offset, n, i, got, e, want, wantE)
	}
}

// P11.1

func TestCommonPrefixOfAFewStrings(t *testing.T) {
	long := strings.Repeat("x", 70000)
	for _, c := range []struct {
		a, b string
		want int
	}{
		{"", "", 0},
		{"", "a", 0},
		{"a", "", 0},
		{"a", "a", 1},
		{"a", "b", 0},
		{"a", "A", 0},
		{"abc", "abd", 2},
		{"abc", "abcd", 3},
		{"abc", "xbc", 0},
		{"abc", "axc", 1}, // what is equal after a difference does not count
		{"\x00", "", 0},
		{"\x00a", "\x00b", 1},
		{"\xff\xfe", "\xff\xff", 1},
		{"é", "è", 1}, // bytes count, not runes
		{"e", "é", 0},
		{long, long, 70000},
		{long + "a", long + "b", 70000},
		{long, long[1:], 69999},
	} {
		if got := frontcode.CommonPrefix(c.a, c.b); got != c.want {
			t.Errorf("CommonPrefix(%.40q, %.40q) = %d, want %d", c.a, c.b, got, c.want)
		}
	}
}

func TestEncodingOfAFewValues(t *testing.T) {
	same := func(n int) []string { return slices.Repeat([]string{"same"}, n) }
	rest := "\x04\x00"
	long := strings.Repeat("x", 300)
	for _, c := range []struct {
		values []string
		want   string
	}{
		{nil, ""},
		{[]string{}, ""},
		{[]string{""}, "\x00\x00"},
		{[]string{"a"}, "\x00\x01a"},
		{[]string{"abc", "abd"}, "\x00\x03abc\x02\x01d"},
		{[]string{"abd", "abc"}, "\x00\x03abd\x02\x01c"}, // the order of the strings does not matter
		{[]string{"a", "a"}, "\x00\x01a\x01\x00"},
		{[]string{"a", "ab", "a", "", "a"}, "\x00\x01a\x01\x01b\x01\x00\x00\x00\x00\x01a"},
		{[]string{"ab", "", "ab"}, "\x00\x02ab\x00\x00\x00\x02ab"}, // only the predecessor counts
		{[]string{"\x00", "\x00\xff", "\xff"}, "\x00\x01\x00\x01\x01\xff\x00\x01\xff"},
		{[]string{"é", "è"}, "\x00\x02é\x01\x01\xa8"},
		{[]string{long, long + long}, "\x00\xac\x02" + long + "\xac\x02\xac\x02" + long},
		{same(16), "\x00\x04same" + strings.Repeat(rest, 15)},
		{same(17), "\x00\x04same" + strings.Repeat(rest, 15) + "\x00\x04same"},
		{same(34), strings.Repeat("\x00\x04same"+strings.Repeat(rest, 15), 2) + "\x00\x04same" + rest},
	} {
		if got := frontcode.Encode(c.values); string(got) != c.want {
			t.Errorf("Encode(%.40q) = %.40x, want %.40x", c.values, got, c.want)
		}
		if got := frontcode.Size(c.values); got != len(c.want) {
			t.Errorf("Size(%.40q) = %d, want %d", c.values, got, len(c.want))
		}
	}
}

func TestEncodingAgreesWithTheDefinition(t *testing.T) {
	more := numbered(maxLength+1, 1) // Encode has no limit
	for _, values := range append(append(samples(), longLists()...), more) {
		before := slices.Clone(values)
		want := encode(values)
		if got := frontcode.Encode(values); !bytes.Equal(got, want) {
			t.Fatalf("Encode of %d values has %d bytes, want %d", len(values), len(got), len(want))
		}
		if got := frontcode.Size(values); got != len(want) {
			t.Fatalf("Size of %d values = %d, want %d", len(values), got, len(want))
		}
		if !slices.Equal(values, before) {
			t.Fatalf("%d values were changed", len(values))
		}
	}
}

// P11.2

func TestDecodeOfAFewEncodings(t *testing.T) {
	same := "\x00\x04same" + strings.Repeat("\x04\x00", 15)
	long := strings.Repeat("x", 70000)
	for _, c := range []struct {
		b    string
		want []string
	}{
		{"", nil},
		{"\x00\x00", []string{""}},
		{"\x00\x01a", []string{"a"}},
		{"\x00\x03abc\x02\x01d", []string{"abc", "abd"}},
		{"\x00\x01a\x01\x01b\x01\x00\x00\x00\x00\x01a", []string{"a", "ab", "a", "", "a"}},
		{"\x00\x02ab\x00\x00\x00\x02ab", []string{"ab", "", "ab"}},
		{"\x00\x02é\x01\x01\xa8", []string{"é", "è"}},
		{"\x00\x02ab\x01\x02xy\x02\x01b", []string{"ab", "axy", "axb"}},
		{same, slices.Repeat([]string{"same"}, 16)},
		{same + same, slices.Repeat([]string{"same"}, 32)},
		{same + "\x00\x04same\x04\x01!", append(slices.Repeat([]string{"same"}, 17), "same!")},
		{strings.Repeat("\x00\x00", maxLength), slices.Repeat([]string{""}, maxLength)},
		{"\x00\xf0\xa2\x04" + long + "\xf0\xa2\x04\x01y", []string{long, long + "y"}},
	} {
		b := []byte(c.b)
		checkDecoded(t, b, 0, c.want, len(b))
		for cut := range min(60, len(b)) {
			checkRefused(t, "cut", b[:cut], 0, len(c.want), api.ErrShort)
			checkRefused(t, "cut at the end", b[:len(b)-cut-1], 0, len(c.want), api.ErrShort)
		}
	}
}

// outOfRange calls check with arguments that Decode and At refuse.
func outOfRange(check func(b []byte, offset, n int)) {
	for _, s := range []string{"", "\x00", "\x00\x00", "\x80", "\x80\x00", "\x01\x00", "\x00\x01a", "\x00\x01a\x01\x00"} {
		b := []byte(s)
		for _, offset := range []int{math.MinInt, math.MinInt + 1, -maxLength, -2, -1, len(b) + 1, len(b) + 2, maxLength, math.MaxInt - 1, math.MaxInt} {
			for _, n := range []int{math.MinInt, -1, 0, 1, 2, maxLength, maxLength + 1, math.MaxInt} {
				check(b, offset, n)
			}
		}
		for _, n := range []int{math.MinInt, math.MinInt + 1, -maxLength, -2, -1, maxLength + 1, maxLength + 2, 1 << 32, 1<<32 + 1, math.MaxInt - 1, math.MaxInt} {
			for offset := range len(b) + 1 {
				check(b, offset, n)
			}
		}
	}
}

func TestDecodeWithArgumentsOutOfRange(t *testing.T) {
	outOfRange(func(b []byte, offset, n int) {
		checkRefused(t, "argument", b, offset, n, api.ErrArg)
	})
}

func TestDecodeOfNoStrings(t *testing.T) {
	for _, b := range [][]byte{nil, {}, {0}, {0x80, 0}, {1, 0, 255}} {
		for offset := range len(b) + 1 {
			checkDecoded(t, b, offset, nil, offset)
			for _, n := range []int{1, 2, maxLength} {
				checkRefused(t, "no byte at offset", b, len(b), n, api.ErrShort)
			}
		}
	}
}

func TestDecodeReportsTheFirstError(t *testing.T) {
	same := "\x00\x04same" + strings.Repeat("\x04\x00", 15)
	huge := "\xff\xff\xff\xff\xff\xff\xff\xff\xff\x01" // 2^64 - 1
	half := "\x80\x80\x80\x80\x80\x80\x80\x80\x80\x01" // 2^63
	beyond := strings.Repeat("\xff", 10)               // no varint: more than 64 bits
	for _, c := range []struct {
		name, b string
		n       int
		want    api.Errno
	}{
		{"shared length missing", "", 1, api.ErrShort},
		{"shared length cut", "\x80", 1, api.ErrShort},
		{"shared length too long", "\x80\x00\x00", 1, api.ErrFormat},
		{"shared length beyond 64 bits", beyond, 1, api.ErrFormat},
		{"shared length of the first string", "\x01\x00", 1, api.ErrFormat},
		{"shared length of the first string, and nothing else", "\x01", 1, api.ErrFormat},
		{"shared length 2^63 of the first string", half + "\x00", 1, api.ErrFormat},
		{"shared length 2^64-1 of the first string", huge + "\x00", 1, api.ErrFormat},
		{"number missing", "\x00", 1, api.ErrShort},
		{"number cut", "\x00\x80", 1, api.ErrShort},
		{"number too long", "\x00\x81\x00a", 1, api.ErrFormat},
		{"number beyond 64 bits", "\x00" + beyond, 1, api.ErrFormat},
		{"bytes missing", "\x00\x01", 1, api.ErrShort},
		{"bytes cut", "\x00\x02a", 1, api.ErrShort},
		{"2^63 bytes", "\x00" + half + "a", 1, api.ErrShort},
		{"2^64-1 bytes", "\x00" + huge + "a", 1, api.ErrShort},
		{"2^32 bytes", "\x00\x80\x80\x80\x80\x10", 1, api.ErrShort},
		{"second string missing", "\x00\x01a", 2, api.ErrShort},
		{"second shared length cut", "\x00\x01a\x80", 2, api.ErrShort},
		{"second shared length too long", "\x00\x01a\x81\x00\x00", 2, api.ErrFormat},
		{"shared length beyond the predecessor", "\x00\x01a\x02\x00", 2, api.ErrFormat},
		{"shared length beyond the predecessor, and nothing else", "\x00\x01a\x02", 2, api.ErrFormat},
		{"shared length beyond the predecessor, and a number too long", "\x00\x01a\x02\x80\x00", 2, api.ErrFormat},
		{"shared length beyond the predecessor, and bytes missing", "\x00\x01a\x02\x05", 2, api.ErrFormat},
		{"shared length 2^63", "\x00\x01a" + half + "\x00", 2, api.ErrFormat},
		{"shared length 2^64-1", "\x00\x01a" + huge + "\x00", 2, api.ErrFormat},
		{"shared length 2^32 + 1", "\x00\x01a\x81\x80\x80\x80\x10\x00", 2, api.ErrFormat},
		{"shared length beyond the predecessor, not beyond the string before", "\x00\x02ab\x00\x01c\x02\x00", 3, api.ErrFormat},
		{"second number missing", "\x00\x01a\x01", 2, api.ErrShort},
		{"second number cut", "\x00\x01a\x00\x80", 2, api.ErrShort},
		{"second number too long", "\x00\x01a\x00\x80\x00", 2, api.ErrFormat},
		{"second string cut", "\x00\x01a\x01\x02b", 2, api.ErrShort},
		{"common prefix is longer", "\x00\x01a\x00\x01a", 2, api.ErrFormat},
		{"common prefix is longer, but bytes are missing", "\x00\x01a\x00\x02a", 2, api.ErrShort},
		{"common prefix is longer by a byte", "\x00\x03abc\x01\x02bx", 2, api.ErrFormat},
		{"common prefix is longer by all bytes", "\x00\x03abc\x00\x03abc", 2, api.ErrFormat},
		{"common prefix is longer, and the string too", "\x00\x03abc\x02\x02cd", 2, api.ErrFormat},
		{"common prefix is longer, third string", "\x00\x01b\x00\x01a\x00\x01a", 3, api.ErrFormat},
		{"restart point shares 1 byte", same + "\x01\x03ame", 17, api.ErrFormat},
		{"restart point shares all bytes", same + "\x04\x00", 17, api.ErrFormat},
		{"restart point shares more", same + "\x05\x00", 17, api.ErrFormat},
		{"restart point shares, and nothing else", same + "\x04", 17, api.ErrFormat},
		{"restart point shares, and a number too long", same + "\x04\x80\x00", 17, api.ErrFormat},
		{"restart point shares, and bytes missing", same + "\x04\x09", 17, api.ErrFormat},
		{"second restart point shares", same + same + "\x04\x00", 33, api.ErrFormat},
		{"no restart point before", strings.TrimSuffix(same, "\x04\x00") + "\x00\x04same", 16, api.ErrFormat},
		{"no restart point after", same + "\x00\x04same\x00\x04same", 18, api.ErrFormat},
		{"shared length after a restart point", same + "\x00\x01s\x02\x00", 18, api.ErrFormat},
	} {
		checkRefused(t, c.name, []byte(c.b), 0, c.n, c.want)
		checkRefused(t, c.name, []byte("a\x02\x80"+c.b), 3, c.n, c.want)
		checkAt(t, []byte(c.b), 0, c.n, c.n-1, "", c.want)
		checkAt(t, []byte("a\x02\x80"+c.b), 3, c.n+1, c.n-1, "", c.want)
	}
}

// decode reads the strings of the definition as long as there is no error, and reports the error after them.
func decode(b []byte, offset, n int) ([]string, int, api.Errno) {
	var values []string
	for i := range n {
		lengths, rest := [2]uint64{}, b[offset:]
		for k := range lengths {
			number, size := binary.Uvarint(rest)
			switch {
			case size == 0 && len(rest) < 10:
				return values, 0, api.ErrShort
			case size <= 0 || size > 1 && rest[size-1] == 0:
				return values, 0, api.ErrFormat
			case k == 0 && number > 0 && (i%group == 0 || number > uint64(len(values[i-1]))):
				return values, 0, api.ErrFormat
			}
			lengths[k], rest = number, rest[size:]
		}
		if uint64(len(rest)) < lengths[1] {
			return values, 0, api.ErrShort
		}
		s := string(rest[:lengths[1]])
		if i%group > 0 {
			s = values[i-1][:lengths[0]] + s
		}
		values = append(values, s)
		if uint64(shared(values, i)) != lengths[0] {
			return values[:i], 0, api.ErrFormat
		}
		offset = len(b) - len(rest) + int(lengths[1])
	}
	return values, offset, api.OK
}

// checkAgainstModel compares Decode and At with decode and returns whether b was accepted; what is accepted is encoded to the same bytes.
func checkAgainstModel(t *testing.T, b []byte, offset, n int) bool {
	t.Helper()
	got, next, e := frontcode.Decode(b, offset, n)
	found, wantNext, wantE := decode(b, offset, n)
	want := found
	if wantE != api.OK {
		want = nil
	}
	if e != wantE || next != wantNext || !slices.Equal(got, want) {
		t.Fatalf("Decode(%.40x, %d, %d) = %.40q, %d, %d, want %.40q, %d, %d", b, offset, n, got, next, e, want, wantNext, wantE)
	}
	if e == api.OK && !bytes.Equal(frontcode.Encode(got), b[offset:next]) {
		t.Fatalf("%.40x is decoded to %.40q, which is encoded as %.40x", b[offset:], got, frontcode.Encode(got))
	}
	for i := range n {
		if i < len(found) {
			checkAt(t, b, offset, n, i, found[i], api.OK)
		} else {
			checkAt(t, b, offset, n, i, "", wantE)
		}
	}
	return e == api.OK
}

// TestDecodeAgreesWithTheModel tries all short sequences of bytes that matter: lengths that are also bytes of strings, and bytes that others follow.
func TestDecodeAgreesWithTheModel(t *testing.T) {
	accepted := [5]int{}
	short := [][][]byte{sequences([]byte{0, 1, 2, 3, 128, 255}, 6), sequences([]byte{0, 1, 2, 128}, 8), sequences([]byte{0, 1, 'a'}, 10)}
	for _, b := range slices.Concat(short...) {
		for n := range accepted {
			if checkAgainstModel(t, b, 0, n) {
				accepted[n]++
			}
		}
	}
	if slices.Min(accepted[:]) < 5 {
		t.Errorf("sequences that were accepted for each number of strings: %d", accepted)
	}
}

// TestDecodeAgreesWithTheModelAtEachByte tries all bytes at places that matter, also after a restart point.
func TestDecodeAgreesWithTheModelAtEachByte(t *testing.T) {
	for k, c := range []struct {
		n    int
		with func(x, y byte) []byte
	}{
		{2, func(x, y byte) []byte { return []byte{0, 3, 'a', 'b', 'c', x, y, 'd', 'e'} }},
		{2, func(x, y byte) []byte { return []byte{0, 3, 'a', 'b', 'c', 1, 2, x, y} }},
		{2, func(x, y byte) []byte { return []byte{x, 3, 'a', 'b', 'c', y, 1, 'x'} }},
		{3, func(x, y byte) []byte { return []byte{0, 3, 'a', 'b', 'c', x, 1, 'd', y, 0} }},
		{3, func(x, y byte) []byte { return []byte{0, 3, 'a', x, 'c', 1, 2, 'b', y, 2, 1, 'b'} }},
	} {
		accepted := 0
		for _, before := range []int{0, 14, 15, 16} {
			prefix := frontcode.Encode(slices.Repeat([]string{"Z"}, before))
			for pair := range 1 << 16 {
				b := append(slices.Clone(prefix), c.with(byte(pair), byte(pair>>8))...)
				_, _, e := frontcode.Decode(b, 0, before+c.n)
				if _, _, want := decode(b, 0, before+c.n); e != want {
					t.Fatalf("Decode(%x, 0, %d) has error %d, want %d", b, before+c.n, e, want)
				}
				if e == api.OK {
					accepted++
				}
			}
		}
		if accepted < 10 {
			t.Errorf("only %d sequences of kind %d were accepted", accepted, k)
		}
	}
}

func TestDecodeOfDamagedEncodings(t *testing.T) {
	for k, values := range samples() {
		b := frontcode.Encode(values)
		if len(b) > 150 || len(values) < 15 && k%11 != 0 {
			continue
		}
		for cut := range len(b) {
			checkRefused(t, "cut", b[:cut], 0, len(values), api.ErrShort)
		}
		for p := range 8 * len(b) {
			b[p/8] ^= 1 << (p % 8)
			checkAgainstModel(t, b, 0, len(values))
			b[p/8] ^= 1 << (p % 8)
		}
		for _, n := range []int{0, len(values) - 1, len(values) + 1, 2 * len(values)} {
			if n >= 0 {
				checkAgainstModel(t, b, 0, n)
			}
		}
		for offset := range len(b) {
			checkAgainstModel(t, b, offset, len(values))
		}
	}
}

// P11.3

func TestAtOfAFewEncodings(t *testing.T) {
	same := "\x00\x04same" + strings.Repeat("\x04\x00", 15)
	for _, c := range []struct {
		b    string
		n, i int
		want string
		e    api.Errno
	}{
		{"\x00\x01a", 1, 0, "a", api.OK},
		{"\x00\x00", 1, 0, "", api.OK},
		{"\x00\x03abc\x02\x01d", 2, 0, "abc", api.OK},
		{"\x00\x03abc\x02\x01d", 2, 1, "abd", api.OK},
		{"\x00\x03abc\x02\x00\x01\x01x", 3, 1, "ab", api.OK},
		{"\x00\x03abc\x02\x00\x01\x01x", 3, 2, "ax", api.OK},
		{same + "\x00\x02sa\x02\x02me", 18, 15, "same", api.OK},
		{same + "\x00\x02sa\x02\x02me", 18, 16, "sa", api.OK},
		{same + "\x00\x02sa\x02\x02me", 18, 17, "same", api.OK},
		// Later strings are not examined, whether they are missing or not valid.
		{"\x00\x01a", maxLength, 0, "a", api.OK},
		{"\x00\x01a", 2, 1, "", api.ErrShort},
		{"\x00\x01a\x09", 2, 0, "a", api.OK},
		{"\x00\x01a\x80\x00", 2, 0, "a", api.OK},
		{"\x00\x01a\x00\x01a", 2, 0, "a", api.OK},
		{"\x00\x01a\x00\x01a", 2, 1, "", api.ErrFormat},
		{same + "\x04", 17, 15, "same", api.OK},
		{same + "\x04", 17, 16, "", api.ErrFormat},
		// Errors of earlier strings are reported, also if these are before the last restart point.
		{"\x01\x00\x00\x01a", 2, 1, "", api.ErrFormat},
		{"\x00\x01a\x00\x01a\x00\x01b", 3, 2, "", api.ErrFormat},
		{"\x00\x01a\x00\x01a" + strings.Repeat("\x01\x00", 14) + "\x00\x01b", 17, 16, "", api.ErrFormat},
		{same[:len(same)-2] + "\x00\x04same\x00\x01b", 17, 16, "", api.ErrFormat},
	} {
		checkAt(t, []byte(c.b), 0, c.n, c.i, c.want, c.e)
		checkAt(t, []byte("\x01"+c.b), 1, c.n, c.i, c.want, c.e)
	}
}

func TestAtWithArgumentsOutOfRange(t *testing.T) {
	outOfRange(func(b []byte, offset, n int) {
		for _, i := range []int{math.MinInt, -1, 0, 1, n - 1, math.MaxInt} {
			checkAt(t, b, offset, n, i, "", api.ErrArg)
		}
	})
	for _, n := range []int{0, 1, 2, 17, maxLength} {
		valid := frontcode.Encode(slices.Repeat([]string{"a"}, n+1))
		for _, b := range [][]byte{nil, {1}, {0x80, 0}, valid} {
			for _, i := range []int{math.MinInt, math.MinInt + n, -n - 1, -2, -1, n, n + 1, maxLength, 1 << 32, math.MaxInt} {
				checkAt(t, b, 0, n, i, "", api.ErrArg)
				checkAt(t, b, len(b), n, i, "", api.ErrArg)
			}
		}
	}
}

// P11.4

func TestDecodeInvertsEncodeBetweenOtherBytes(t *testing.T) {
	for _, values := range samples() {
		b := frontcode.Encode(values)
		for _, before := range [][]byte{nil, {0}, {0, 1, 'a'}, {0x80, 255}} {
			for _, after := range [][]byte{nil, {0}, {255}, {1, 0}, {0, 1, 'a', 0x80}} {
				checkDecoded(t, slices.Concat(before, b, after), len(before), values, len(before)+len(b))
			}
		}
	}
	for _, values := range longLists() {
		b := frontcode.Encode(values)
		checkDecoded(t, slices.Concat([]byte{1}, b, []byte{1}), 1, values, 1+len(b))
	}
}

func TestAtAgreesWithDecodeAtEveryIndex(t *testing.T) {
	for _, values := range samples() {
		b := slices.Concat([]byte{7}, frontcode.Encode(values), []byte{0x80})
		for i, s := range values {
			checkAt(t, b, 1, len(values), i, s, api.OK)
		}
	}
	for _, values := range longLists() {
		b := frontcode.Encode(values)
		for _, i := range []int{0, 1, 15, 16, 17, 1000, len(values) - 2, len(values) - 1} {
			checkAt(t, b, 0, len(values), i, values[i], api.OK)
		}
	}
}

func TestResultsShareNoMemory(t *testing.T) {
	for _, values := range [][]string{{"a"}, {"abc", "abd", "abd", "ab"}, slices.Repeat([]string{"same"}, 20)} {
		kept, b := slices.Clone(values), frontcode.Encode(values)
		encoded := slices.Clone(b)
		first, _, _ := frontcode.Decode(b, 0, len(values))
		second, _, _ := frontcode.Decode(b, 0, len(values))
		last, _ := frontcode.At(b, 0, len(values), len(values)-1)
		if !bytes.Equal(b, encoded) {
			t.Errorf("Decode or At changed %x to %x", encoded, b)
		}
		clear(first)
		clear(b) // the strings hold their own bytes
		if !slices.Equal(values, kept) || !slices.Equal(second, kept) || last != kept[len(kept)-1] || !bytes.Equal(frontcode.Encode(values), encoded) {
			t.Errorf("a result changed with another one: %q, %q, %q", values, second, last)
		}
	}
}

// P11.5

func TestCommonPrefixIsSymmetric(t *testing.T) {
	var list []string
	for _, s := range sequences([]byte("ab\x00\xff"), 4) {
		list = append(list, string(s))
	}
	list = append(list, texts()...)
	for _, a := range list {
		if got := frontcode.CommonPrefix(a, a); got != len(a) {
			t.Fatalf("CommonPrefix of %.40q and itself = %d", a, got)
		}
		for _, b := range list {
			n := frontcode.CommonPrefix(a, b)
			if back := frontcode.CommonPrefix(b, a); back != n {
				t.Fatalf("CommonPrefix(%.40q, %.40q) = %d, the other way %d", a, b, n, back)
			}
			if a[:n] != b[:n] || n < len(a) && n < len(b) && a[n] == b[n] {
				t.Fatalf("CommonPrefix(%.40q, %.40q) = %d", a, b, n)
			}
		}
	}
}

func TestEncodingsOfPartsAreTheEncodingOfTheWhole(t *testing.T) {
	for _, values := range append(samples(), longLists()...) {
		whole := frontcode.Encode(values)
		for _, parts := range []int{0, 1, 2, 3, len(values) / group / 2, len(values) / group} {
			if cut := parts * group; cut <= len(values) {
				first, second := frontcode.Encode(values[:cut]), frontcode.Encode(values[cut:])
				if !bytes.Equal(slices.Concat(first, second), whole) {
					t.Fatalf("%d values: the first %d and the others are encoded to %d and %d bytes, all to %d", len(values), cut, len(first), len(second), len(whole))
				}
			}
		}
	}
}

func TestEncodingsOfOtherPartsDiffer(t *testing.T) {
	values := slices.Repeat([]string{"same"}, 2*group)
	whole := frontcode.Encode(values)
	for cut := range len(values) + 1 {
		parts := slices.Concat(frontcode.Encode(values[:cut]), frontcode.Encode(values[cut:]))
		if bytes.Equal(parts, whole) != (cut%group == 0) {
			t.Errorf("the first %d of equal strings and the others are encoded to %x, all to %x", cut, parts, whole)
		}
	}
}
