package rle_test

import (
	"bytes"
	"encoding/binary"
	"math"
	"slices"
	"testing"

	"lamina/api"
	"lamina/bitset"
	"lamina/rle"
)

const maxLength = 65536

// sequences returns all sequences of up to length elements of the alphabet.
func sequences[T any](alphabet []T, length int) [][]T {
	all := [][]T{{}}
	for start := 0; length > 0; length-- {
		end := len(all)
		for _, s := range all[start:end] {
			for _, x := range alphabet {
				all = append(all, append(slices.Clone(s), x))
			}
		}
		start = end
	}
	return all
}

// samples returns short sequences in great number, and long ones.
func samples() [][]int64 {
	list := sequences([]int64{0, 7, -1}, 6)
	list = append(list, sequences([]int64{0, 1, -1, math.MinInt64, math.MaxInt64, math.MinInt64 + 1, math.MaxInt64 - 1}, 3)...)
	for _, n := range []int{63, 64, 65, 127, 128, 129, 200, 4096, maxLength - 1, maxLength} {
		same, distinct, mixed := make([]int64, n), make([]int64, n), make([]int64, n)
		for i := range n {
			same[i], distinct[i], mixed[i] = -5, int64(i*i)*1e9, int64(i*i/1000%7)
		}
		list = append(list, same, distinct, mixed)
	}
	return list
}

// runsOf finds the runs from the positions at which the value changes.
func runsOf(values []int64) []api.Run {
	var runs []api.Run
	for start := 0; start < len(values); {
		end := start + 1
		for end < len(values) && values[end] == values[start] {
			end++
		}
		runs = append(runs, api.Run{Value: values[start], Count: end - start})
		start = end
	}
	return runs
}

// valid is the definition of a valid list of runs; the counts are few enough that the sum, once each of them is in range, is too.
func valid(runs []api.Run) bool {
	sum := 0
	for i, run := range runs {
		if run.Count < 1 || run.Count > maxLength || i > 0 && runs[i-1].Value == run.Value {
			return false
		}
		sum += run.Count
	}
	return sum <= maxLength
}

// anyRuns returns lists of runs, most of them not valid.
func anyRuns() [][]api.Run {
	var alphabet []api.Run
	for _, count := range []int{1, 2, 0, -1, 32768, maxLength - 2, maxLength - 1, maxLength, maxLength + 1, math.MaxInt, math.MaxInt - 1, math.MinInt, math.MinInt + 1} {
		alphabet = append(alphabet, api.Run{Value: 3, Count: count}, api.Run{Value: 4, Count: count})
	}
	return sequences(alphabet, 3)
}

// P7.1

func TestRunsOfAFewValues(t *testing.T) {
	for _, c := range []struct {
		values []int64
		want   []api.Run
	}{
		{nil, nil},
		{[]int64{}, nil},
		{[]int64{0}, []api.Run{{Value: 0, Count: 1}}},
		{[]int64{0, 0}, []api.Run{{Value: 0, Count: 2}}},
		{[]int64{5, 5, 7}, []api.Run{{Value: 5, Count: 2}, {Value: 7, Count: 1}}},
		{[]int64{5, 7, 5}, []api.Run{{Value: 5, Count: 1}, {Value: 7, Count: 1}, {Value: 5, Count: 1}}},
		{[]int64{math.MinInt64, math.MaxInt64, math.MaxInt64}, []api.Run{{Value: math.MinInt64, Count: 1}, {Value: math.MaxInt64, Count: 2}}},
	} {
		if got := rle.Runs(c.values); !slices.Equal(got, c.want) {
			t.Errorf("Runs(%d) = %d, want %d", c.values, got, c.want)
		}
		if got, e := rle.Expand(c.want); e != api.OK || !slices.Equal(got, c.values) {
			t.Errorf("Expand(%d) = %d, %d, want %d", c.want, got, e, c.values)
		}
	}
}

func TestRunsAreValidAndRepresentTheValues(t *testing.T) {
	for _, values := range samples() {
		before := slices.Clone(values)
		got := rle.Runs(values)
		if want := runsOf(values); !slices.Equal(got, want) || !rle.Valid(got) {
			t.Fatalf("Runs of %d values has %d runs, want %d", len(values), len(got), len(want))
		}
		if !slices.Equal(values, before) {
			t.Fatalf("Runs changed its argument of %d values", len(values))
		}
	}
}

func TestValidRuns(t *testing.T) {
	for _, c := range []struct {
		runs []api.Run
		want bool
	}{
		{nil, true},
		{[]api.Run{{Value: 5, Count: 1}}, true},
		{[]api.Run{{Value: 5, Count: 2}, {Value: 7, Count: 1}, {Value: 5, Count: 1}}, true},
		{[]api.Run{{Value: 5, Count: 0}}, false},
		{[]api.Run{{Value: 5, Count: -1}}, false},
		{[]api.Run{{Value: 5, Count: 1}, {Value: 5, Count: 1}}, false},
		{[]api.Run{{Value: 4, Count: 1}, {Value: 5, Count: 1}, {Value: 5, Count: 1}}, false},
		{[]api.Run{{Value: 5, Count: maxLength}}, true},
		{[]api.Run{{Value: 5, Count: maxLength + 1}}, false},
		{[]api.Run{{Value: 5, Count: maxLength - 1}, {Value: 7, Count: 1}}, true},
		{[]api.Run{{Value: 5, Count: maxLength}, {Value: 7, Count: 1}}, false},
		{[]api.Run{{Value: 5, Count: 1}, {Value: 7, Count: math.MaxInt}}, false},
		{[]api.Run{{Value: 5, Count: math.MaxInt}, {Value: 7, Count: math.MaxInt}, {Value: 5, Count: 3}}, false},
		{[]api.Run{{Value: 5, Count: maxLength + 1}, {Value: 7, Count: -1}}, false},
	} {
		if got := rle.Valid(c.runs); got != c.want {
			t.Errorf("Valid(%d) = %t", c.runs, got)
		}
	}
}

func TestValidAndExpandOfAnyRuns(t *testing.T) {
	for _, runs := range anyRuns() {
		want := valid(runs)
		if got := rle.Valid(runs); got != want {
			t.Fatalf("Valid(%d) = %t", runs, got)
		}
		values, e := rle.Expand(runs)
		if want && (e != api.OK || !slices.Equal(runsOf(values), runs)) {
			t.Fatalf("Expand(%d) has %d values, error %d", runs, len(values), e)
		}
		if !want && (e != api.ErrFormat || len(values) != 0) {
			t.Fatalf("Expand(%d) has %d values, error %d, want error %d", runs, len(values), e, api.ErrFormat)
		}
	}
}

func TestTheMostRuns(t *testing.T) {
	runs := make([]api.Run, maxLength)
	for i := range runs {
		runs[i] = api.Run{Value: int64(i % 2), Count: 1}
	}
	if values, e := rle.Expand(runs); e != api.OK || len(values) != maxLength || !rle.Valid(runs) {
		t.Errorf("Expand of %d runs has %d values, error %d", len(runs), len(values), e)
	}
	runs = append(runs, api.Run{Value: 2, Count: 1})
	if values, e := rle.Expand(runs); e != api.ErrFormat || len(values) != 0 || rle.Valid(runs) {
		t.Errorf("Expand of %d runs has %d values, error %d", len(runs), len(values), e)
	}
}

// P7.2

func TestAtOfAFewRuns(t *testing.T) {
	runs := []api.Run{{Value: 5, Count: 2}, {Value: 7, Count: 1}, {Value: math.MinInt64, Count: 3}}
	for i, want := range []int64{5, 5, 7, math.MinInt64, math.MinInt64, math.MinInt64} {
		if got, ok := rle.At(runs, i); got != want || !ok {
			t.Errorf("At(%d, %d) = %d, %t, want %d", runs, i, got, ok, want)
		}
	}
}

func TestAtOutOfRange(t *testing.T) {
	for _, runs := range [][]api.Run{nil, {}, {{Value: 5, Count: 1}}, {{Value: 5, Count: 2}, {Value: 7, Count: 1}}, {{Value: 9, Count: maxLength}}} {
		n := 0
		for _, run := range runs {
			n += run.Count
		}
		for _, i := range []int{math.MinInt, math.MinInt + 1, -maxLength, -2, -1, n, n + 1, maxLength, maxLength + 1, math.MaxInt - 1, math.MaxInt} {
			if got, ok := rle.At(runs, i); got != 0 || ok {
				t.Errorf("At(%d, %d) = %d, %t", runs, i, got, ok)
			}
		}
	}
}

func TestFilterAsksOncePerRunInOrder(t *testing.T) {
	runs := []api.Run{{Value: 5, Count: 2}, {Value: 7, Count: 1}, {Value: 5, Count: 70}, {Value: -2, Count: 1}}
	var asked []int64
	got := rle.Filter(runs, func(v int64) bool {
		asked = append(asked, v)
		return v == 5
	})
	if want := []int64{5, 7, 5, -2}; !slices.Equal(asked, want) {
		t.Errorf("keep was asked about %d, want %d", asked, want)
	}
	if got.N != 74 || bitset.Count(got) != 72 || bitset.Contains(got, 2) || bitset.Contains(got, 73) {
		t.Errorf("Filter(%d) = %v", runs, got)
	}
}

func TestFilterFollowsTheAnswerForEachRun(t *testing.T) {
	// Equal values of two runs may be answered differently: the answer holds for the run that was asked about.
	runs := []api.Run{{Value: 5, Count: 2}, {Value: 7, Count: 1}, {Value: 5, Count: 1}}
	calls := 0
	got := rle.Filter(runs, func(int64) bool {
		calls++
		return calls == 3
	})
	if want := bitset.Of(4, 3); got.N != want.N || !slices.Equal(got.Words, want.Words) {
		t.Errorf("Filter(%d) = %v, want %v", runs, got, want)
	}
}

func TestFilterOfNothing(t *testing.T) {
	got := rle.Filter(nil, func(v int64) bool {
		t.Errorf("keep was asked about %d", v)
		return true
	})
	if got.N != 0 || !bitset.Valid(got) {
		t.Errorf("Filter(nil) = %v", got)
	}
}

// TestWithoutAGuaranteeNothingPanics covers arguments for which the chapter leaves the result open.
func TestWithoutAGuaranteeNothingPanics(t *testing.T) {
	yes := func(int64) bool { return true }
	for _, runs := range anyRuns() {
		if valid(runs) {
			continue
		}
		if got := rle.Filter(runs, yes); !bitset.Valid(got) {
			t.Fatalf("Filter(%d) = %v", runs, got)
		}
		for _, i := range []int{math.MinInt, -1, 0, 1, maxLength, math.MaxInt} {
			rle.At(runs, i)
		}
		rle.Encode(runs)
	}
	if got := rle.Filter([]api.Run{{Value: 5, Count: 1}}, nil); !bitset.Valid(got) {
		t.Errorf("Filter without a function = %v", got)
	}
	rle.Runs(make([]int64, maxLength+1))
}

// P7.3

func TestEncodeOfAFewRuns(t *testing.T) {
	for _, c := range []struct {
		runs []api.Run
		want []byte
	}{
		{nil, []byte{0}},
		{[]api.Run{{Value: 0, Count: 1}}, []byte{1, 0, 1}},
		{[]api.Run{{Value: -1, Count: 1}}, []byte{1, 1, 1}},
		{[]api.Run{{Value: 5, Count: 2}, {Value: 7, Count: 1}}, []byte{2, 0x0a, 2, 4, 1}},
		{[]api.Run{{Value: 7, Count: 200}, {Value: 5, Count: 1}}, []byte{2, 0x0e, 0xc8, 1, 3, 1}},
		{[]api.Run{{Value: 100, Count: maxLength}}, []byte{1, 0xc8, 1, 0x80, 0x80, 4}},
		{[]api.Run{{Value: math.MinInt64, Count: 1}}, []byte{1, 255, 255, 255, 255, 255, 255, 255, 255, 255, 1, 1}},
		{[]api.Run{{Value: math.MaxInt64, Count: 1}}, []byte{1, 254, 255, 255, 255, 255, 255, 255, 255, 255, 1, 1}},
		// Across the ends of the range, the difference is 1 or -1 modulo 2^64.
		{[]api.Run{{Value: -1, Count: 1}, {Value: math.MaxInt64, Count: 1}, {Value: math.MinInt64, Count: 1}, {Value: math.MaxInt64, Count: 1}},
			[]byte{4, 1, 1, 255, 255, 255, 255, 255, 255, 255, 255, 255, 1, 1, 2, 1, 1, 1}},
	} {
		if got := rle.Encode(c.runs); !bytes.Equal(got, c.want) {
			t.Errorf("Encode(%d) = %x, want %x", c.runs, got, c.want)
		}
		if got, next, e := rle.Decode(c.want, 0); e != api.OK || next != len(c.want) || !slices.Equal(got, c.runs) {
			t.Errorf("Decode(%x) = %d, %d, %d, want %d", c.want, got, next, e, c.runs)
		}
	}
}

func TestDecodeOfInvalidBytes(t *testing.T) {
	for _, c := range []struct {
		name string
		b    []byte
		want api.Errno
	}{
		{"nothing", nil, api.ErrShort},
		{"number of runs cut", []byte{0x80}, api.ErrShort},
		{"number of runs too long", []byte{0x81, 0}, api.ErrFormat},
		{"number of runs beyond 64 bits", bytes.Repeat([]byte{255}, 10), api.ErrFormat},
		{"65537 runs", []byte{0x81, 0x80, 4}, api.ErrRange},
		{"65537 runs, then a bad one", []byte{0x81, 0x80, 4, 0x80, 0}, api.ErrRange},
		{"2^64-1 runs", []byte{255, 255, 255, 255, 255, 255, 255, 255, 255, 1}, api.ErrRange},
		{"2^63 runs", []byte{0x80, 0x80, 0x80, 0x80, 0x80, 0x80, 0x80, 0x80, 0x80, 1}, api.ErrRange},
		{"65536 runs, but none there", []byte{0x80, 0x80, 4}, api.ErrShort},
		{"difference missing", []byte{1}, api.ErrShort},
		{"difference cut", []byte{1, 0x80}, api.ErrShort},
		{"difference too long", []byte{1, 0x80, 0, 1}, api.ErrFormat},
		{"count missing", []byte{1, 2}, api.ErrShort},
		{"count cut", []byte{1, 2, 0x80}, api.ErrShort},
		{"count too long", []byte{1, 2, 0x81, 0}, api.ErrFormat},
		{"count 0", []byte{1, 0, 0}, api.ErrRange},
		{"count 65537", []byte{1, 2, 0x81, 0x80, 4}, api.ErrRange},
		{"count 2^63", []byte{1, 2, 0x80, 0x80, 0x80, 0x80, 0x80, 0x80, 0x80, 0x80, 0x80, 1}, api.ErrRange},
		{"count 2^64-1", []byte{1, 2, 255, 255, 255, 255, 255, 255, 255, 255, 255, 1}, api.ErrRange},
		{"second run missing", []byte{2, 2, 1}, api.ErrShort},
		{"second difference 0", []byte{2, 2, 1, 0, 1}, api.ErrFormat},
		{"second difference 0, count missing", []byte{2, 2, 1, 0}, api.ErrFormat},
		{"second difference 0, count 0", []byte{2, 2, 1, 0, 0}, api.ErrFormat},
		{"second count 0", []byte{2, 2, 1, 2, 0}, api.ErrRange},
		{"sum 65537", []byte{2, 2, 0x80, 0x80, 4, 2, 1}, api.ErrRange},
		{"sum 65537 otherwise", []byte{2, 2, 1, 2, 0x80, 0x80, 4}, api.ErrRange},
		{"sum 2^64", []byte{2, 2, 1, 2, 255, 255, 255, 255, 255, 255, 255, 255, 255, 1}, api.ErrRange},
		{"first count bad, second difference too", []byte{2, 2, 0, 0, 1}, api.ErrRange},
	} {
		for _, prefix := range [][]byte{nil, {9, 0x80}} {
			b := append(slices.Clone(prefix), c.b...)
			if got, next, e := rle.Decode(b, len(prefix)); e != c.want || next != 0 || len(got) != 0 {
				t.Errorf("%s: Decode(%x, %d) = %d, %d, %d, want error %d", c.name, b, len(prefix), got, next, e, c.want)
			}
		}
	}
}

func TestDecodeAtAnInvalidOffset(t *testing.T) {
	for _, b := range [][]byte{nil, {0}, {1, 0, 1}, {0x80, 0}} {
		for _, offset := range []int{math.MinInt, -2, -1, len(b) + 1, len(b) + 2, math.MaxInt} {
			if got, next, e := rle.Decode(b, offset); e != api.ErrArg || next != 0 || len(got) != 0 {
				t.Errorf("Decode(%x, %d) = %d, %d, %d", b, offset, got, next, e)
			}
		}
		if got, next, e := rle.Decode(b, len(b)); e != api.ErrShort || next != 0 || len(got) != 0 {
			t.Errorf("Decode(%x, %d) = %d, %d, %d", b, len(b), got, next, e)
		}
	}
}

func TestDecodeStopsBehindTheRuns(t *testing.T) {
	for _, suffix := range [][]byte{nil, {0}, {255}, {2, 1}} {
		b := append([]byte{0x80, 2, 0x0a, 2, 4, 1}, suffix...)
		got, next, e := rle.Decode(b, 1)
		if want := []api.Run{{Value: 5, Count: 2}, {Value: 7, Count: 1}}; e != api.OK || next != 6 || !slices.Equal(got, want) {
			t.Errorf("Decode(%x, 1) = %d, %d, %d", b, got, next, e)
		}
	}
}

func TestDecodeOfTheMostRuns(t *testing.T) {
	b := []byte{0x80, 0x80, 4}
	for range maxLength {
		b = append(b, 2, 1)
	}
	got, next, e := rle.Decode(b, 0)
	if e != api.OK || next != len(b) || len(got) != maxLength || got[maxLength-1] != (api.Run{Value: maxLength, Count: 1}) {
		t.Errorf("Decode of %d runs has %d, offset %d, error %d", maxLength, len(got), next, e)
	}
	b[len(b)-1] = 2
	if got, next, e := rle.Decode(b, 0); e != api.ErrRange || next != 0 || len(got) != 0 {
		t.Errorf("Decode of runs of 65537 elements has %d, offset %d, error %d", len(got), next, e)
	}
}

// readNumber reads a varint at offset; only the shortest one of a number is accepted.
func readNumber(b []byte, offset int) (uint64, int, api.Errno) {
	n, size := binary.Uvarint(b[offset:])
	if size == 0 && len(b)-offset < 10 {
		return 0, 0, api.ErrShort
	}
	if size <= 0 || size > 1 && b[offset+size-1] == 0 {
		return 0, 0, api.ErrFormat
	}
	return n, offset + size, api.OK
}

// decode reads one run after the other and asks the definition of valid lists after each of them.
func decode(b []byte, offset int) ([]api.Run, int, api.Errno) {
	n, offset, e := readNumber(b, offset)
	if e != api.OK {
		return nil, 0, e
	}
	if n > maxLength {
		return nil, 0, api.ErrRange
	}
	var runs []api.Run
	value := int64(0)
	for n > uint64(len(runs)) {
		step, next, e := readNumber(b, offset)
		if e != api.OK {
			return nil, 0, e
		}
		if step%2 == 0 {
			value += int64(step / 2)
		} else {
			value -= int64(step/2) + 1
		}
		if runs = append(runs, api.Run{Value: value, Count: 1}); len(runs) > 1 && runs[len(runs)-2].Value == value {
			return nil, 0, api.ErrFormat
		}
		count, next, e := readNumber(b, next)
		if e != api.OK {
			return nil, 0, e
		}
		if runs[len(runs)-1].Count = int(count); !valid(runs) {
			return nil, 0, api.ErrRange
		}
		offset = next
	}
	return runs, offset, api.OK
}

// TestDecodeAgreesWithTheModel tries all short sequences of bytes that matter: ends of varints, bytes that others follow, and zeros.
func TestDecodeAgreesWithTheModel(t *testing.T) {
	accepted := 0
	for _, b := range sequences([]byte{0, 1, 2, 3, 4, 127, 128, 255}, 6) {
		got, next, e := rle.Decode(b, 0)
		want, wantNext, wantE := decode(b, 0)
		if e != wantE || next != wantNext || !slices.Equal(got, want) {
			t.Fatalf("Decode(%x) = %d, %d, %d, want %d, %d, %d", b, got, next, e, want, wantNext, wantE)
		}
		if e != api.OK {
			continue
		}
		accepted++
		if !rle.Valid(got) || !bytes.Equal(rle.Encode(got), b[:next]) {
			t.Fatalf("%x is decoded to %d, which is encoded as %x", b, got, rle.Encode(got))
		}
	}
	if accepted == 0 {
		t.Error("no sequence was accepted")
	}
}

// P7.4

func TestExpandAndRunsAreInverse(t *testing.T) {
	for _, values := range samples() {
		runs := rle.Runs(values)
		got, e := rle.Expand(runs)
		if e != api.OK || !slices.Equal(got, values) {
			t.Fatalf("Expand(Runs) of %d values has %d, error %d", len(values), len(got), e)
		}
		if again := rle.Runs(got); !slices.Equal(again, runs) {
			t.Fatalf("Runs(Expand) of %d runs has %d", len(runs), len(again))
		}
	}
}

func TestDecodeInvertsEncode(t *testing.T) {
	for _, values := range samples() {
		runs := runsOf(values)
		b := rle.Encode(runs)
		got, next, e := rle.Decode(b, 0)
		if e != api.OK || next != len(b) || !slices.Equal(got, runs) {
			t.Fatalf("Decode(Encode) of %d runs has %d, offset %d of %d, error %d", len(runs), len(got), next, len(b), e)
		}
		if len(b) > 100 {
			continue
		}
		for cut := range len(b) {
			if got, next, e := rle.Decode(b[:cut], 0); e != api.ErrShort || next != 0 || len(got) != 0 {
				t.Errorf("Decode(%x) = %d, %d, %d", b[:cut], got, next, e)
			}
		}
	}
}

// P7.5

func TestAtAgreesWithExpand(t *testing.T) {
	for _, values := range samples() {
		runs := runsOf(values)
		expanded, e := rle.Expand(runs)
		if e != api.OK {
			t.Fatalf("Expand of %d runs has error %d", len(runs), e)
		}
		for i := 0; i < len(values); i += 1 + len(values)/500 {
			if got, ok := rle.At(runs, i); got != expanded[i] || !ok {
				t.Fatalf("At(%d) of %d runs = %d, %t, want %d", i, len(runs), got, ok, expanded[i])
			}
		}
		if got, ok := rle.At(runs, len(values)-1); len(values) > 0 && (got != values[len(values)-1] || !ok) {
			t.Fatalf("At(%d) of %d runs = %d, %t", len(values)-1, len(runs), got, ok)
		}
		if got, ok := rle.At(runs, len(values)); got != 0 || ok {
			t.Fatalf("At(%d) of %d runs = %d, %t", len(values), len(runs), got, ok)
		}
	}
}

func TestFilterAgreesWithKeep(t *testing.T) {
	for name, keep := range map[string]func(int64) bool{
		"all":      func(int64) bool { return true },
		"none":     func(int64) bool { return false },
		"positive": func(v int64) bool { return v > 0 },
		"odd":      func(v int64) bool { return v%2 != 0 },
	} {
		for _, values := range samples() {
			got := rle.Filter(runsOf(values), keep)
			if got.N != len(values) || !bitset.Valid(got) {
				t.Fatalf("%s: Filter of %d values has N %d and %d words", name, len(values), got.N, len(got.Words))
			}
			for i, v := range values {
				if bitset.Contains(got, i) != keep(v) {
					t.Fatalf("%s: element %d of %d values, %d, is kept or left out wrongly", name, i, len(values), v)
				}
			}
		}
	}
}

func TestResultsShareNoMemory(t *testing.T) {
	runs := []api.Run{{Value: 5, Count: 2}, {Value: 7, Count: 1}}
	first, _ := rle.Expand(runs)
	first[0] = 9
	kept := rle.Filter(runs, func(int64) bool { return true })
	kept.Words[0] = 0
	if second, _ := rle.Expand(runs); second[0] != 5 || !bitset.Contains(rle.Filter(runs, func(int64) bool { return true }), 0) {
		t.Error("a result changed with an earlier one")
	}
	b := rle.Encode(runs)
	decoded, _, _ := rle.Decode(b, 0)
	for i := range b {
		b[i] = 0
	}
	if !slices.Equal(decoded, runs) {
		t.Errorf("the decoded runs changed to %d", decoded)
	}
}
