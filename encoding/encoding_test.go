package encoding_test

import (
	"bytes"
	"encoding/binary"
	"math"
	"slices"
	"strconv"
	"strings"
	"testing"

	"lamina/api"
	"lamina/bitset"
	"lamina/delta"
	"lamina/dictionary"
	"lamina/encoding"
	"lamina/frameref"
	"lamina/frontcode"
	"lamina/rle"
	"lamina/value"
)

const (
	maxLength = 65536
	count     = 6 // of encodings
)

func ints(values ...int64) api.Vector {
	return api.Vector{Type: api.Int, Ints: values, Nulls: make([]bool, len(values))}
}

func bools(values ...int64) api.Vector {
	return api.Vector{Type: api.Bool, Ints: values, Nulls: make([]bool, len(values))}
}

func texts(values ...string) api.Vector {
	return api.Vector{Type: api.Text, Texts: values, Nulls: make([]bool, len(values))}
}

// equal reports whether a and b are equal; nil and empty slices are.
func equal(a, b api.Vector) bool {
	return a.Type == b.Type && slices.Equal(a.Ints, b.Ints) && slices.Equal(a.Texts, b.Texts) && slices.Equal(a.Nulls, b.Nulls)
}

func clone(v api.Vector) api.Vector {
	return api.Vector{Type: v.Type, Ints: slices.Clone(v.Ints), Texts: slices.Clone(v.Texts), Nulls: slices.Clone(v.Nulls)}
}

// describe tells what v is in a few words.
func describe(v api.Vector) string {
	s := "type " + strconv.Itoa(v.Type) + ", " + strconv.Itoa(len(v.Nulls)) + " values"
	for _, n := range v.Ints[:min(8, len(v.Ints))] {
		s += " " + strconv.FormatInt(n, 10)
	}
	for _, text := range v.Texts[:min(8, len(v.Texts))] {
		s += " " + strconv.Quote(text[:min(10, len(text))])
	}
	return s
}

// sequences returns all sequences of up to length elements of the alphabet.
func sequences[T any](alphabet []T, length int) [][]T {
	all := [][]T{{}}
	for start := 0; length > 0; length-- {
		end := len(all)
		for _, s := range all[start:end] {
			for _, x := range alphabet {
				all = append(all, append(slices.Clone(s), x))
			}
		}
		start = end
	}
	return all
}

// intLists returns lists of n numbers: equal, ascending, in runs, by chance in several widths, with exceptions, and at the limits of 64 bits.
func intLists(n int) [][]int64 {
	list := make([][]int64, 10)
	mixed := uint64(n)
	for i := range n {
		mixed = mixed*6364136223846793005 + 1442695040888963407
		exception := int64(0)
		if i%50 == 49 {
			exception = 1 << 40
		}
		for k, x := range []int64{
			7, math.MinInt64, int64(i), int64(i)*1000 - 5, int64(i) * int64(i), int64(i*5/n) << 50,
			int64(mixed >> 62), int64(mixed>>50) - 100, int64(mixed), exception + int64(mixed>>60),
		} {
			list[k] = append(list[k], x)
		}
	}
	return list
}

// boolLists returns lists of n Bools: equal, in turns, in runs and by chance.
func boolLists(n int) [][]int64 {
	list := make([][]int64, 5)
	mixed := uint64(n)
	for i := range n {
		mixed = mixed*6364136223846793005 + 1442695040888963407
		for k, x := range []int{0, 1, i % 2, i * 3 / n % 2, int(mixed >> 63)} {
			list[k] = append(list[k], int64(x))
		}
	}
	return list
}

// textLists returns lists of n strings: equal, short, in ascending order, repeating, and not UTF-8.
func textLists(n int) [][]string {
	list := make([][]string, 7)
	mixed := uint64(n)
	for i := range n {
		mixed = mixed*6364136223846793005 + 1442695040888963407
		for k, s := range []string{
			"", "same", "row " + strconv.Itoa(100000+i), string([]byte{byte(mixed >> 56)}), strconv.FormatUint(mixed, 36),
			"long word " + strconv.Itoa(int(mixed>>61)), strings.Repeat("\xff", i%20),
		} {
			list[k] = append(list[k], s)
		}
	}
	return list
}

// long returns strings of which the lengths are the limits of a varint and of a Text.
func long() []string {
	var list []string
	for _, n := range []int{127, 128, api.MaxText - 1, api.MaxText} {
		list = append(list, strings.Repeat("x", n), strings.Repeat("x", n-1)+"y", strings.Repeat("\xff", n))
	}
	return list
}

// vectors returns vectors of n values of all types.
func vectors(n int) []api.Vector {
	var list []api.Vector
	for _, l := range intLists(n) {
		list = append(list, ints(l...))
	}
	for _, l := range boolLists(n) {
		list = append(list, bools(l...))
	}
	for _, l := range textLists(n) {
		list = append(list, texts(l...))
	}
	return list
}

// samples returns short vectors in great number, and some longer ones.
func samples() []api.Vector {
	list := []api.Vector{texts(long()...), texts(slices.Repeat(long(), 3)...)}
	for _, l := range sequences([]int64{0, 1}, 9) {
		list = append(list, bools(l...))
	}
	for _, l := range sequences([]int64{0, -1, 200, math.MinInt64, math.MaxInt64}, 4) {
		list = append(list, ints(l...))
	}
	for _, l := range sequences([]string{"", "a", "ab", "b\x00", "\xff"}, 4) {
		list = append(list, texts(l...))
	}
	for _, n := range []int{5, 8, 15, 16, 17, 33, 64, 65, 127, 128, 129, 300} {
		list = append(list, vectors(n)...)
	}
	return list
}

// longVectors returns vectors at the limit of an encoded form.
func longVectors() []api.Vector {
	return vectors(maxLength)
}

// applicable returns the encodings that apply to a type.
func applicable(typ int) []int {
	switch typ {
	case api.Bool, api.Int:
		return []int{api.EncPlain, api.EncRLE, api.EncFrame, api.EncDelta}
	case api.Text:
		return []int{api.EncPlain, api.EncDictionary, api.EncFront}
	}
	return nil
}

// plain returns the plain form by its definition, without the number of the encoding.
func plain(v api.Vector) []byte {
	b := []byte{}
	if v.Type == api.Bool {
		b = make([]byte, (len(v.Ints)+7)/8)
	}
	for i, n := range v.Ints {
		if v.Type == api.Int {
			b = binary.LittleEndian.AppendUint64(b, uint64(n))
		} else if n == 1 {
			b[i/8] += 1 << (i % 8)
		}
	}
	for _, s := range v.Texts {
		b = append(binary.AppendUvarint(b, uint64(len(s))), s...)
	}
	return b
}

// form returns the encoded form by its definition.
func form(v api.Vector, enc int) []byte {
	b := []byte{byte(enc)}
	switch enc {
	case api.EncPlain:
		return append(b, plain(v)...)
	case api.EncRLE:
		return append(b, rle.Encode(rle.Runs(v.Ints))...)
	case api.EncFrame:
		return append(b, frameref.Encode(v.Ints)...)
	case api.EncDelta:
		return append(b, delta.Encode(v.Ints)...)
	case api.EncDictionary:
		return append(b, dictionary.Encode(v.Texts)...)
	case api.EncFront:
		return append(b, frontcode.Encode(v.Texts)...)
	}
	return nil
}

// checkDecoded fails unless Decode finds v and ends at next.
func checkDecoded(t *testing.T, b []byte, v api.Vector, next int) {
	t.Helper()
	got, end, e := encoding.Decode(b, v.Type, len(v.Nulls))
	if e != api.OK || end != next || !equal(got, v) {
		t.Fatalf("Decode(%.40x) of %s is %s, offset %d, error %d, want offset %d", b, describe(v), describe(got), end, e, next)
	}
}

// checkRefused fails unless Decode, and Filter too, report the error, and nothing beside it.
func checkRefused(t *testing.T, name string, b []byte, typ, n int, want api.Errno) {
	t.Helper()
	if got, next, e := encoding.Decode(b, typ, n); e != want || next != 0 || !equal(got, api.Vector{}) {
		t.Errorf("%s: Decode(%.40x, %d, %d) is %s, offset %d, error %d, want error %d", name, b, typ, n, describe(got), next, e, want)
	}
	if got, e := encoding.Filter(b, typ, n, api.Predicate{Op: api.PredNotNull}); e != want || got.N != 0 || len(got.Words) != 0 {
		t.Errorf("%s: Filter(%.40x, %d, %d) has N %d, error %d, want error %d", name, b, typ, n, got.N, e, want)
	}
}

// P12.1

// checkCosts fails unless the costs of v are these.
func checkCosts(t *testing.T, v api.Vector, want [count]int) {
	t.Helper()
	got := encoding.Costs(v)
	if len(got) != count {
		t.Fatalf("%s: %d costs", describe(v), len(got))
	}
	for enc, c := range got {
		if c.Encoding != enc || c.Bytes != want[enc] {
			t.Fatalf("%s: cost %d is %d of encoding %d, want %d", describe(v), enc, c.Bytes, c.Encoding, want[enc])
		}
	}
}

func TestCostsAndChoiceOfAFewVectors(t *testing.T) {
	word := strings.Repeat("w", 200)
	for _, c := range []struct {
		v      api.Vector
		costs  [count]int
		choice int
	}{
		{ints(), [count]int{1, 2, 4, 5, -1, -1}, api.EncPlain},
		{bools(), [count]int{1, 2, 4, 5, -1, -1}, api.EncPlain},
		{texts(), [count]int{1, -1, -1, -1, 3, 1}, api.EncPlain}, // plain and front draw
		{ints(7, 7, 7), [count]int{25, 4, 4, 6, -1, -1}, api.EncRLE},
		{ints(0), [count]int{9, 4, 4, 6, -1, -1}, api.EncRLE},
		{ints(math.MaxInt64), [count]int{9, 13, 13, 15, -1, -1}, api.EncPlain},
		{ints(5, 4, 7, 6), [count]int{33, 10, 5, 8, -1, -1}, api.EncFrame},
		{ints(0, 1000, 2000, 3000, 4000, 5000), [count]int{49, 19, 14, 7, -1, -1}, api.EncDelta},
		{ints(0, 1000), [count]int{17, 7, 7, 7, -1, -1}, api.EncRLE}, // runs, frame and delta draw
		{bools(1, 0, 1), [count]int{2, 8, 5, 7, -1, -1}, api.EncPlain},
		{bools(1, 1), [count]int{2, 4, 4, 6, -1, -1}, api.EncPlain},
		{texts("a", "a"), [count]int{5, -1, -1, -1, 5, 6}, api.EncPlain}, // plain and dictionary draw
		{texts("a", "a", "a"), [count]int{7, -1, -1, -1, 5, 8}, api.EncDictionary},
		{texts("abc", "abd", "abe"), [count]int{13, -1, -1, -1, 16, 12}, api.EncFront},
		{texts("", ""), [count]int{3, -1, -1, -1, 4, 5}, api.EncPlain},
		{texts(word, word), [count]int{405, -1, -1, -1, 205, 207}, api.EncDictionary},
	} {
		checkCosts(t, c.v, c.costs)
		if got := encoding.Choose(c.v); got != c.choice {
			t.Errorf("%s: Choose returns %d, want %d", describe(c.v), got, c.choice)
		}
	}
}

// costs returns the lengths of the encoded forms.
func costs(v api.Vector) [count]int {
	list := [count]int{-1, -1, -1, -1, -1, -1}
	for _, enc := range applicable(v.Type) {
		list[enc] = len(form(v, enc))
	}
	return list
}

func TestCostsAndChoiceAgreeWithTheForms(t *testing.T) {
	chosen, draws := [count]int{}, 0
	for _, v := range append(samples(), longVectors()...) {
		before := clone(v)
		want := costs(v)
		checkCosts(t, v, want)
		first, least := -1, math.MaxInt
		for enc, size := range want {
			switch {
			case size < 0:
			case size < least:
				first, least = enc, size
			case size == least:
				draws++
			}
		}
		if got := encoding.Choose(v); got != first {
			t.Fatalf("%s: Choose returns %d, want %d, for %d", describe(v), got, first, want)
		}
		if chosen[first]++; !equal(v, before) {
			t.Fatalf("%s: the vector was changed", describe(before))
		}
	}
	if slices.Min(chosen[:]) < 5 || draws < 20 {
		t.Errorf("vectors for which each encoding is chosen: %d, draws: %d", chosen, draws)
	}
}

// P12.2

func TestEncodingOfAFewVectors(t *testing.T) {
	same := strings.Repeat("x", 300)
	for _, c := range []struct {
		v    api.Vector
		enc  int
		want string
	}{
		{ints(), api.EncPlain, "\x00"},
		{ints(), api.EncRLE, "\x01\x00"},
		{ints(), api.EncFrame, "\x02\x00\x00\x00"},
		{ints(), api.EncDelta, "\x03\x01\x00\x00\x00"},
		{ints(258, -2), api.EncPlain, "\x00\x02\x01\x00\x00\x00\x00\x00\x00\xfe\xff\xff\xff\xff\xff\xff\xff"},
		{ints(5, 5, 7), api.EncRLE, "\x01\x02\x0a\x02\x04\x01"},
		{ints(0, 1, 2, 3), api.EncFrame, "\x02\x00\x02\x00\xe4"},
		{ints(7), api.EncDelta, "\x03\x01\x0e\x00\x00\x00"},
		{bools(), api.EncPlain, "\x00"},
		{bools(1, 0, 1), api.EncPlain, "\x00\x05"},
		{bools(0, 0, 0, 0, 0, 0, 0, 1), api.EncPlain, "\x00\x80"},
		{bools(0, 0, 0, 0, 0, 0, 0, 0, 1), api.EncPlain, "\x00\x00\x01"},
		{bools(1, 1, 0), api.EncRLE, "\x01\x02\x02\x02\x01\x01"},
		{bools(1, 1), api.EncFrame, "\x02\x02\x00\x00"},
		{bools(1), api.EncDelta, "\x03\x01\x02\x00\x00\x00"},
		{texts(), api.EncPlain, "\x00"},
		{texts(), api.EncDictionary, "\x04\x00\x00"},
		{texts(), api.EncFront, "\x05"},
		{texts("", "é", "\xff"), api.EncPlain, "\x00\x00\x02é\x01\xff"},
		{texts(same), api.EncPlain, "\x00\xac\x02" + same},
		{texts("b", "a", "b"), api.EncDictionary, "\x04\x02\x01a\x01b\x00\x05"},
		{texts("abc", "abd"), api.EncFront, "\x05\x00\x03abc\x02\x01d"},
	} {
		if got, e := encoding.Encode(c.v, c.enc); e != api.OK || string(got) != c.want {
			t.Errorf("%s: Encode with %d = %.40x, error %d, want %.40x", describe(c.v), c.enc, got, e, c.want)
		}
	}
}

func TestEncodingAgreesWithTheDefinition(t *testing.T) {
	for _, v := range append(samples(), longVectors()...) {
		before := clone(v)
		for _, enc := range applicable(v.Type) {
			if got, e := encoding.Encode(v, enc); e != api.OK || !bytes.Equal(got, form(v, enc)) {
				t.Fatalf("%s: Encode with %d has %d bytes, error %d, want %d", describe(v), enc, len(got), e, len(form(v, enc)))
			}
		}
		if !equal(v, before) {
			t.Fatalf("%s: the vector was changed", describe(before))
		}
	}
}

// checkNotEncoded fails unless Encode reports the error, and nothing beside it.
func checkNotEncoded(t *testing.T, name string, v api.Vector, enc int, want api.Errno) {
	t.Helper()
	if got, e := encoding.Encode(v, enc); e != want || len(got) != 0 {
		t.Errorf("%s: Encode with %d has %d bytes, error %d, want %d", name, enc, len(got), e, want)
	}
}

func TestEncodeOfVectorsThatAreNotEncodable(t *testing.T) {
	null := []bool{false}
	atLimit, beyond := make([]int64, maxLength), make([]int64, maxLength+1)
	for name, v := range map[string]api.Vector{
		"no type":                        {},
		"type Null":                      {Type: api.Null, Nulls: []bool{true}},
		"type Null, not NULL":            {Type: api.Null, Nulls: null},
		"type Null with an Int":          {Type: api.Null, Ints: []int64{0}, Nulls: null},
		"type -1":                        {Type: -1, Ints: []int64{0}, Nulls: null},
		"type 4":                         {Type: 4, Ints: []int64{0}, Nulls: null},
		"type 4 without values":          {Type: 4},
		"type 2^32 + 2":                  {Type: 1<<32 + api.Int, Ints: []int64{0}, Nulls: null},
		"Int that is NULL":               {Type: api.Int, Ints: []int64{0}, Nulls: []bool{true}},
		"second Int is NULL":             {Type: api.Int, Ints: []int64{0, 0}, Nulls: []bool{false, true}},
		"Bool that is NULL":              {Type: api.Bool, Ints: []int64{0}, Nulls: []bool{true}},
		"Text that is NULL":              {Type: api.Text, Texts: []string{""}, Nulls: []bool{true}},
		"Int without Nulls":              {Type: api.Int, Ints: []int64{0}},
		"Text without Nulls":             {Type: api.Text, Texts: []string{"a"}},
		"Nulls without Ints":             {Type: api.Int, Nulls: null},
		"Nulls without Texts":            {Type: api.Text, Nulls: null},
		"more Ints than Nulls":           {Type: api.Int, Ints: []int64{0, 0}, Nulls: null},
		"more Nulls than Ints":           {Type: api.Int, Ints: []int64{0}, Nulls: []bool{false, false}},
		"more Texts than Nulls":          {Type: api.Text, Texts: []string{"", ""}, Nulls: null},
		"Int with Texts":                 {Type: api.Int, Ints: []int64{0}, Texts: []string{""}, Nulls: null},
		"Int with Texts only":            {Type: api.Int, Texts: []string{""}, Nulls: null},
		"Int without values, with Texts": {Type: api.Int, Texts: []string{""}},
		"Bool with Texts":                {Type: api.Bool, Ints: []int64{0}, Texts: []string{""}, Nulls: null},
		"Text with Ints":                 {Type: api.Text, Ints: []int64{0}, Texts: []string{""}, Nulls: null},
		"Text with Ints only":            {Type: api.Text, Ints: []int64{0}, Nulls: null},
		"Bool 2":                         bools(2),
		"Bool -1":                        bools(-1),
		"third Bool is 2^32":             bools(0, 1, 1<<32),
		"Bool -2^63":                     bools(math.MinInt64),
		"Text of 4097 bytes":             texts(strings.Repeat("x", api.MaxText+1)),
		"second Text of 4097 bytes":      texts("a", strings.Repeat("x", api.MaxText+1)),
		"65537 Ints":                     ints(beyond...),
		"65537 Bools":                    bools(beyond...),
		"65537 Texts":                    texts(make([]string, maxLength+1)...),
		"65537 Ints, 65536 Nulls":        {Type: api.Int, Ints: beyond, Nulls: make([]bool, maxLength)},
		"65536 Ints, 65537 Nulls":        {Type: api.Int, Ints: atLimit, Nulls: make([]bool, maxLength+1)},
	} {
		for enc := -2; enc < count+2; enc++ { // also those that do not apply, or do not exist
			checkNotEncoded(t, name, v, enc, api.ErrArg)
		}
		encoding.Costs(v) // guarantees nothing, but ends
		encoding.Choose(v)
	}
}

func TestEncodeInOtherEncodings(t *testing.T) {
	for _, v := range []api.Vector{ints(), ints(1), bools(), bools(1, 0), texts(), texts("a")} {
		for enc := range count {
			if !slices.Contains(applicable(v.Type), enc) {
				checkNotEncoded(t, describe(v), v, enc, api.ErrType)
			}
		}
		for _, enc := range []int{math.MinInt, -256, -2, -1, count, count + 1, 255, 256, 256 + api.EncRLE, 1 << 32, math.MaxInt} {
			checkNotEncoded(t, describe(v), v, enc, api.ErrArg)
		}
	}
}

// P12.3

func TestDecodeOfAFewForms(t *testing.T) {
	same := strings.Repeat("x", 300)
	most := strings.Repeat("x", api.MaxText)
	for _, c := range []struct {
		b    string
		want api.Vector
	}{
		{"\x00", ints()},
		{"\x00", bools()},
		{"\x00", texts()},
		{"\x00\x02\x01\x00\x00\x00\x00\x00\x00\xfe\xff\xff\xff\xff\xff\xff\xff", ints(258, -2)},
		{"\x00\x00\x00\x00\x00\x00\x00\x00\x80", ints(math.MinInt64)},
		{"\x01\x02\x0a\x02\x04\x01", ints(5, 5, 7)},
		{"\x01\x00", ints()},
		{"\x02\x00\x02\x00\xe4", ints(0, 1, 2, 3)},
		{"\x02\x00\x00\x00", ints()},
		{"\x03\x01\x0e\x00\x00\x00", ints(7)},
		{"\x03\x01\x00\x00\x00", ints()},
		{"\x00\x05", bools(1, 0, 1)},
		{"\x00\xff\x01", bools(1, 1, 1, 1, 1, 1, 1, 1, 1)},
		{"\x01\x02\x02\x02\x01\x01", bools(1, 1, 0)},
		{"\x02\x02\x00\x00", bools(1, 1)},
		{"\x03\x01\x02\x00\x00\x00", bools(1)},
		{"\x00\x00\x02é\x01\xff", texts("", "é", "\xff")},
		{"\x00\xac\x02" + same, texts(same)},
		{"\x00\x80\x20" + most + "\x00", texts(most, "")},
		{"\x04\x02\x01a\x01b\x00\x05", texts("b", "a", "b")},
		{"\x04\x00\x00", texts()},
		{"\x05\x00\x03abc\x02\x01d", texts("abc", "abd")},
		{"\x05\x00\x80\x20" + most + "\x80\x20\x00", texts(most, most)},
		{"\x05", texts()},
	} {
		b := []byte(c.b)
		checkDecoded(t, b, c.want, len(b))
		checkDecoded(t, []byte(c.b+"\x00\xff"), c.want, len(b)) // what follows is not read
		for cut := range min(len(b), 20) {
			checkRefused(t, "cut", b[:cut], c.want.Type, len(c.want.Nulls), api.ErrShort)
			checkRefused(t, "cut at the end", b[:len(b)-cut-1], c.want.Type, len(c.want.Nulls), api.ErrShort)
		}
	}
}

func TestDecodeWithArgumentsOutOfRange(t *testing.T) {
	for _, b := range [][]byte{nil, {0}, {9}, {0, 0, 0, 0, 0, 0, 0, 0, 0}, {1, 1, 2, 1}, {0, 0x80}} {
		for _, typ := range []int{math.MinInt, -1, api.Null, 4, 256 + api.Int, 1<<32 + api.Int, math.MaxInt} {
			for _, n := range []int{-1, 0, 1, maxLength, maxLength + 1} {
				checkRefused(t, "type", b, typ, n, api.ErrArg)
			}
		}
		for _, typ := range []int{api.Bool, api.Int, api.Text} {
			for _, n := range []int{math.MinInt, -maxLength, -2, -1, maxLength + 1, maxLength + 2, 1 << 32, 1<<32 + 1, 1 << 61, math.MaxInt} {
				checkRefused(t, "number of values", b, typ, n, api.ErrArg)
			}
		}
	}
}

func TestDecodeOfEachFirstByte(t *testing.T) {
	for _, typ := range []int{api.Bool, api.Int, api.Text} {
		for _, n := range []int{0, 1, maxLength} {
			checkRefused(t, "no byte", nil, typ, n, api.ErrShort)
			checkRefused(t, "no byte", []byte{}, typ, n, api.ErrShort)
			for first := range 256 {
				if slices.Contains(applicable(typ), first) {
					continue
				}
				for _, rest := range []string{"", "\x00", "\x80\x00", "\x01\x02\x01\x00\x00\x00\x00\x00"} {
					checkRefused(t, "first byte", []byte(string([]byte{byte(first)})+rest), typ, n, api.ErrFormat)
				}
			}
		}
	}
}

func TestDecodeReportsTheFirstError(t *testing.T) {
	most, more := strings.Repeat("x", api.MaxText), strings.Repeat("x", api.MaxText+1)
	huge := "\xff\xff\xff\xff\xff\xff\xff\xff\xff\x01" // 2^64 - 1
	eight := "\x01\x00\x00\x00\x00\x00\x00\x00"
	for _, c := range []struct {
		name, b string
		typ, n  int
		want    api.Errno
	}{
		{"plain Int missing", "\x00", api.Int, 1, api.ErrShort},
		{"plain Int cut", "\x00\x01\x02\x03\x04\x05\x06\x07", api.Int, 1, api.ErrShort},
		{"plain Int, the second one cut", "\x00" + eight + eight[1:], api.Int, 2, api.ErrShort},
		{"plain Ints, 65536 of them", "\x00" + eight, api.Int, maxLength, api.ErrShort},
		{"plain Bool missing", "\x00", api.Bool, 1, api.ErrShort},
		{"plain Bool, the second byte missing", "\x00\xff", api.Bool, 9, api.ErrShort},
		{"plain Bool, the second byte missing, 16 bits", "\x00\xff", api.Bool, 16, api.ErrShort},
		{"plain Bool with an unused bit", "\x00\x02", api.Bool, 1, api.ErrFormat},
		{"plain Bool with another unused bit", "\x00\x80", api.Bool, 7, api.ErrFormat},
		{"plain Bool with an unused bit in the second byte", "\x00\xff\x02", api.Bool, 9, api.ErrFormat},
		{"plain Text without a length", "\x00", api.Text, 1, api.ErrShort},
		{"plain Text with a length cut", "\x00\x80", api.Text, 1, api.ErrShort},
		{"plain Text with a length too long", "\x00\x81\x00a", api.Text, 1, api.ErrFormat},
		{"plain Text with a length beyond 64 bits", "\x00" + strings.Repeat("\xff", 10), api.Text, 1, api.ErrFormat},
		{"plain Text of 4097 bytes", "\x00\x81\x20" + more, api.Text, 1, api.ErrLong},
		{"plain Text of 4097 bytes that are missing", "\x00\x81\x20", api.Text, 1, api.ErrLong},
		{"plain Text of 2^64-1 bytes", "\x00" + huge + "a", api.Text, 1, api.ErrLong},
		{"plain Text cut", "\x00\x02a", api.Text, 1, api.ErrShort},
		{"plain Text of 4096 bytes cut", "\x00\x80\x20" + most[1:], api.Text, 1, api.ErrShort},
		{"plain Text, the second one missing", "\x00\x01a", api.Text, 2, api.ErrShort},
		{"plain Text, the first one cut, the second one not valid", "\x00\x05a\x81\x00", api.Text, 2, api.ErrShort},
		{"plain Text, the first one too long, the second one not valid", "\x00\x81\x20" + more + "\x80\x00", api.Text, 2, api.ErrLong},
		{"plain Text, the second one not valid", "\x00\x01a\x80\x00", api.Text, 2, api.ErrFormat},
		{"runs missing", "\x01", api.Int, 0, api.ErrShort},
		{"runs cut", "\x01\x01\x02", api.Int, 1, api.ErrShort},
		{"number of runs too long", "\x01\x81\x00\x02\x01", api.Int, 1, api.ErrFormat},
		{"65537 runs", "\x01\x81\x80\x04", api.Int, 1, api.ErrRange},
		{"run of none", "\x01\x01\x02\x00", api.Int, 0, api.ErrRange},
		{"run of 65537", "\x01\x01\x02\x81\x80\x04", api.Int, maxLength, api.ErrRange},
		{"equal runs", "\x01\x02\x02\x01\x00\x01", api.Int, 2, api.ErrFormat},
		{"fewer values in runs", "\x01\x01\x02\x01", api.Int, 2, api.ErrCount},
		{"more values in runs", "\x01\x01\x02\x02", api.Int, 1, api.ErrCount},
		{"values in runs, but there are none", "\x01\x01\x02\x01", api.Int, 0, api.ErrCount},
		{"no runs", "\x01\x00", api.Int, 1, api.ErrCount},
		{"run of the Bool 2", "\x01\x01\x04\x01", api.Bool, 1, api.ErrFormat},
		{"run of the Bool -1", "\x01\x01\x01\x01", api.Bool, 1, api.ErrFormat},
		{"second run of the Bool 2", "\x01\x02\x00\x01\x04\x01", api.Bool, 2, api.ErrFormat},
		{"run of the Bool 2, and the wrong number", "\x01\x01\x04\x01", api.Bool, 2, api.ErrCount},
		{"run of the Bool 2, then a cut", "\x01\x02\x04\x01\x02", api.Bool, 2, api.ErrShort},
		{"frame missing", "\x02", api.Int, 0, api.ErrShort},
		{"frame with a width of 65", "\x02\x00\x41\x00", api.Int, 0, api.ErrFormat},
		{"frame of another width", "\x02\x00\x01\x00\x00", api.Int, 1, api.ErrFormat},
		{"frame without packed data", "\x02\x00\x02\x00", api.Int, 4, api.ErrShort},
		{"frame with the Bool 2", "\x02\x04\x00\x00", api.Bool, 3, api.ErrFormat},
		{"frame with the Bools 0 to 3", "\x02\x00\x02\x00\xe4", api.Bool, 4, api.ErrFormat},
		{"differences missing", "\x03", api.Int, 0, api.ErrShort},
		{"differences of order 0", "\x03\x00\x00\x00\x00", api.Int, 0, api.ErrFormat},
		{"differences of order 2 of a number", "\x03\x02\x00\x00\x00\x00", api.Int, 1, api.ErrFormat},
		{"differences of the wrong order", "\x03\x02\x0e\x00\x00\x00\x00", api.Int, 3, api.ErrFormat},
		{"differences without a first number", "\x03\x01", api.Int, 1, api.ErrShort},
		{"differences of the Bool 7", "\x03\x01\x0e\x00\x00\x00", api.Bool, 1, api.ErrFormat},
		{"dictionary missing", "\x04", api.Text, 0, api.ErrShort},
		{"dictionary of more words than values", "\x04\x01\x01a\x00", api.Text, 0, api.ErrRange},
		{"dictionary with a word of 4097 bytes", "\x04\x01\x81\x20" + more + "\x00", api.Text, 1, api.ErrLong},
		{"dictionary without codes", "\x04\x01\x01a", api.Text, 1, api.ErrShort},
		{"dictionary with another form of codes", "\x04\x01\x01a\x02", api.Text, 1, api.ErrFormat},
		{"dictionary with fewer codes in runs", "\x04\x01\x01a\x01\x01\x00\x01", api.Text, 2, api.ErrCount},
		{"dictionary with a word that is not used", "\x04\x02\x01a\x01b\x00\x00", api.Text, 2, api.ErrFormat},
		{"front code missing", "\x05", api.Text, 1, api.ErrShort},
		{"front code shares too much", "\x05\x01\x00", api.Text, 1, api.ErrFormat},
		{"front code shares too little", "\x05\x00\x01a\x00\x01a", api.Text, 2, api.ErrFormat},
		{"front code of 4097 bytes", "\x05\x00\x81\x20" + more, api.Text, 1, api.ErrLong},
		{"front code of 4097 bytes with a shared prefix", "\x05\x00\x80\x20" + most + "\x80\x20\x01y", api.Text, 2, api.ErrLong},
		{"front code of 4097 bytes, then shorter", "\x05\x00\x81\x20" + more + "\x00\x01a", api.Text, 2, api.ErrLong},
		{"front code of 4097 bytes, then cut", "\x05\x00\x81\x20" + more + "\x00", api.Text, 2, api.ErrShort},
		{"front code of 4097 bytes, then not valid", "\x05\x00\x81\x20" + more + "\x00\x01x", api.Text, 2, api.ErrFormat},
	} {
		checkRefused(t, c.name, []byte(c.b), c.typ, c.n, c.want)
	}
}

// decodePlain reads n values by the definition of the plain form.
func decodePlain(b []byte, typ, n int) (api.Vector, int, api.Errno) {
	v := api.Vector{Type: typ}
	rest := b[1:]
	size := (n + 7) / 8
	if typ == api.Int {
		size = 8 * n
	}
	if typ != api.Text && len(rest) < size {
		return v, 0, api.ErrShort
	}
	for i := range n {
		switch typ {
		case api.Int:
			v.Ints = append(v.Ints, int64(binary.LittleEndian.Uint64(rest[8*i:])))
		case api.Bool:
			v.Ints = append(v.Ints, int64(rest[i/8]>>(i%8)&1))
		case api.Text:
			length, k := binary.Uvarint(rest)
			switch {
			case k == 0 && len(rest) < 10:
				return v, 0, api.ErrShort
			case k <= 0 || k > 1 && rest[k-1] == 0:
				return v, 0, api.ErrFormat
			case length > api.MaxText:
				return v, 0, api.ErrLong
			case length > uint64(len(rest)-k):
				return v, 0, api.ErrShort
			}
			v.Texts = append(v.Texts, string(rest[k:k+int(length)]))
			rest = rest[k+int(length):]
		}
	}
	if typ == api.Text {
		return v, len(b) - len(rest), api.OK
	}
	return v, 1 + size, api.OK
}

// decodeOther reads n values by the Decode of the package of the encoding.
func decodeOther(b []byte, typ, n int) (api.Vector, int, api.Errno) {
	v := api.Vector{Type: typ}
	next, e := 0, api.OK
	switch b[0] {
	case api.EncRLE:
		var runs []api.Run
		runs, next, e = rle.Decode(b, 1)
		for _, run := range runs {
			v.Ints = append(v.Ints, slices.Repeat([]int64{run.Value}, run.Count)...)
		}
		if e == api.OK && len(v.Ints) != n {
			e = api.ErrCount
		}
	case api.EncFrame:
		v.Ints, next, e = frameref.Decode(b, 1, n)
	case api.EncDelta:
		v.Ints, next, e = delta.Decode(b, 1, n)
	case api.EncDictionary:
		v.Texts, next, e = dictionary.Decode(b, 1, n)
	case api.EncFront:
		v.Texts, next, e = frontcode.Decode(b, 1, n)
	}
	return v, next, e
}

// decode reads the encoded form step by step, as the promise lists the steps.
func decode(b []byte, typ, n int) (api.Vector, int, api.Errno) {
	if len(b) == 0 {
		return api.Vector{}, 0, api.ErrShort
	}
	if !slices.Contains(applicable(typ), int(b[0])) {
		return api.Vector{}, 0, api.ErrFormat
	}
	read := decodeOther
	if b[0] == api.EncPlain {
		read = decodePlain
	}
	v, next, e := read(b, typ, n)
	for _, x := range v.Ints {
		if e == api.OK && typ == api.Bool && x>>1 != 0 {
			e = api.ErrFormat
		}
	}
	for _, s := range v.Texts {
		if e == api.OK && len(s) > api.MaxText {
			e = api.ErrLong
		}
	}
	if e == api.OK && !bytes.Equal(form(v, int(b[0])), b[:next]) {
		e = api.ErrFormat
	}
	if e != api.OK {
		return api.Vector{}, 0, e
	}
	v.Nulls = make([]bool, n)
	return v, next, api.OK
}

// checkAgainstModel compares Decode with decode and returns whether b was accepted; what is accepted is encoded to the same bytes.
func checkAgainstModel(t *testing.T, b []byte, typ, n int) bool {
	t.Helper()
	got, next, e := encoding.Decode(b, typ, n)
	want, wantNext, wantE := decode(b, typ, n)
	if e != wantE || next != wantNext || !equal(got, want) {
		t.Fatalf("Decode(%.40x, %d, %d) is %s, offset %d, error %d, want %s, %d, %d", b, typ, n, describe(got), next, e, describe(want), wantNext, wantE)
	}
	if e != api.OK {
		return false
	}
	if again, e := encoding.Encode(got, int(b[0])); e != api.OK || !bytes.Equal(again, b[:next]) {
		t.Fatalf("%.40x is decoded to %s, which is encoded as %.40x", b, describe(got), again)
	}
	return true
}

// TestDecodeAgreesWithTheModel tries all short sequences of bytes that matter, for all types, and longer ones of the encoding that needs them.
func TestDecodeAgreesWithTheModel(t *testing.T) {
	accepted := [count]int{}
	short := slices.Concat(sequences([]byte{0, 1, 2, 3, 4, 5, 128, 255}, 5), sequences([]byte{0, 1, 2, 'a'}, 7))
	for _, rest := range sequences([]byte{0, 1, 2, 3, 5}, 6) {
		short = append(short, append([]byte{api.EncDelta, 1}, rest...), append([]byte{api.EncDelta, 2}, rest...))
	}
	for _, b := range short {
		for _, typ := range []int{api.Bool, api.Int, api.Text} {
			for n := range 4 {
				if checkAgainstModel(t, b, typ, n) {
					accepted[b[0]]++
				}
			}
		}
	}
	if slices.Min(accepted[:]) < 100 {
		t.Errorf("sequences that were accepted in each encoding: %d", accepted)
	}
}

func TestDecodeOfDamagedForms(t *testing.T) {
	for k, v := range samples() {
		for _, enc := range applicable(v.Type) {
			b, _ := encoding.Encode(v, enc)
			if len(b) > 80 || k%29 != 0 {
				continue
			}
			for cut := range len(b) {
				checkRefused(t, "cut", b[:cut], v.Type, len(v.Nulls), api.ErrShort)
			}
			for p := range 8 * len(b) {
				b[p/8] ^= 1 << (p % 8)
				for typ := api.Bool; typ <= api.Text; typ++ {
					checkAgainstModel(t, b, typ, len(v.Nulls))
				}
				b[p/8] ^= 1 << (p % 8)
			}
			for _, n := range []int{0, max(0, len(v.Nulls)-1), len(v.Nulls) + 1, 2 * len(v.Nulls), maxLength} {
				checkAgainstModel(t, b, v.Type, n)
			}
		}
	}
}

// P12.4

// operators returns those of predicates.
func operators() []int {
	return []int{api.OpEq, api.OpNe, api.OpLt, api.OpLe, api.OpGt, api.OpGe, api.PredIsNull, api.PredNotNull}
}

// at returns the value of v with index i.
func at(v api.Vector, i int) api.Value {
	if v.Type == api.Text {
		return api.Value{Kind: api.Text, Text: v.Texts[i]}
	}
	return api.Value{Kind: v.Type, Int: v.Ints[i]}
}

// members returns the indices of the values for which p is true.
func members(v api.Vector, p api.Predicate) []int {
	var list []int
	for i := range v.Nulls {
		test := value.Test(p.Op, at(v, i), p.Value)
		if p.Op == api.PredNotNull || test.Kind == api.Bool && test.Int == 1 {
			list = append(list, i)
		}
	}
	return list
}

// checkFilter fails unless Filter finds these indices among n.
func checkFilter(t *testing.T, b []byte, typ, n int, p api.Predicate, want []int) {
	t.Helper()
	got, e := encoding.Filter(b, typ, n, p)
	if e != api.OK || got.N != n || !bitset.Valid(got) || !slices.Equal(slices.Collect(bitset.All(got)), want) {
		t.Fatalf("Filter(%.40x, %d, %d, op %d, %v) = %v, error %d, want %d", b, typ, n, p.Op, p.Value, got, e, want)
	}
}

func TestFilterOfAFewVectors(t *testing.T) {
	number := func(kind int, n int64) api.Value { return api.Value{Kind: kind, Int: n} }
	text := func(s string) api.Value { return api.Value{Kind: api.Text, Text: s} }
	none, all := []int(nil), []int{0, 1, 2}
	for _, c := range []struct {
		v    api.Vector
		x    api.Value
		want [8][]int // by the order of operators
	}{
		{ints(5, -5, 7), number(api.Int, 5), [8][]int{{0}, {1, 2}, {1}, {0, 1}, {2}, {0, 2}, none, all}},
		{ints(5, -5, 7), number(api.Int, 6), [8][]int{none, all, {0, 1}, {0, 1}, {2}, {2}, none, all}},
		{ints(5, -5, 7), number(api.Int, math.MinInt64), [8][]int{none, all, none, none, all, all, none, all}},
		{bools(1, 0, 1), number(api.Bool, 1), [8][]int{{0, 2}, {1}, {1}, all, none, {0, 2}, none, all}},
		{bools(1, 0, 1), number(api.Bool, 0), [8][]int{{1}, {0, 2}, none, {1}, {0, 2}, all, none, all}},
		{texts("b", "a", "ba"), text("b"), [8][]int{{0}, {1, 2}, {1}, {0, 1}, {2}, {0, 2}, none, all}},
		{texts("b", "a", "ba"), text(""), [8][]int{none, all, none, none, all, all, none, all}},
		{texts("b", "a", "ba"), text("\xff"), [8][]int{none, all, all, all, none, none, none, all}},
		// A comparison with NULL or with a value of another kind is true for no value.
		{ints(1, 0, 1), number(api.Bool, 1), [8][]int{7: all}},
		{ints(0, 0, 0), api.Value{}, [8][]int{7: all}},
		{ints(0, 0, 0), text(""), [8][]int{7: all}},
		{ints(5, 5, 5), api.Value{Kind: 4, Int: 5}, [8][]int{7: all}},
		{bools(1, 0, 1), number(api.Int, 1), [8][]int{7: all}},
		{bools(0, 0, 0), api.Value{}, [8][]int{7: all}},
		{texts("", "", ""), api.Value{}, [8][]int{7: all}},
		{texts("", "1", ""), number(api.Int, 1), [8][]int{7: all}},
		{texts("", "", ""), api.Value{Kind: -1}, [8][]int{7: all}},
	} {
		for k, op := range operators() {
			for _, enc := range applicable(c.v.Type) {
				b, _ := encoding.Encode(c.v, enc)
				for _, column := range []int{0, 1, -1, math.MaxInt} { // is ignored
					checkFilter(t, b, c.v.Type, 3, api.Predicate{Column: column, Op: op, Value: c.x}, c.want[k])
					checkFilter(t, append(slices.Clip(b), 0x80, 0), c.v.Type, 3, api.Predicate{Column: column, Op: op, Value: c.x}, c.want[k])
				}
			}
		}
	}
}

// valuesFor returns values to compare those of v with.
func valuesFor(v api.Vector) []api.Value {
	list := []api.Value{{}, {Kind: api.Bool}, {Kind: api.Bool, Int: 1}, {Kind: api.Int}, {Kind: api.Int, Int: 200}, {Kind: api.Text}, {Kind: api.Text, Text: "a"}}
	if n := len(v.Nulls); n > 0 {
		list = append(list, at(v, 0), at(v, n/2), at(v, n-1))
	}
	return list
}

// checkFilters compares Filter with the model for all predicates that fit v, in all encodings.
func checkFilters(t *testing.T, v api.Vector) {
	t.Helper()
	var forms [][]byte
	for _, enc := range applicable(v.Type) {
		b, _ := encoding.Encode(v, enc)
		forms = append(forms, b)
	}
	for _, x := range valuesFor(v) {
		for _, op := range operators() {
			p := api.Predicate{Op: op, Value: x}
			want := members(v, p)
			for _, b := range forms {
				kept := slices.Clone(b)
				checkFilter(t, b, v.Type, len(v.Nulls), p, want)
				if !bytes.Equal(b, kept) {
					t.Fatalf("Filter changed %.40x to %.40x", kept, b)
				}
			}
		}
	}
}

func TestFilterAgreesWithTheModelInEveryEncoding(t *testing.T) {
	for k, v := range samples() {
		if k%7 == 0 {
			checkFilters(t, v)
		}
	}
	for _, n := range []int{63, 64, 65, 127, 128, 129} {
		for _, l := range boolLists(n) {
			checkFilters(t, bools(l...))
		}
	}
	for _, v := range longVectors() {
		b, _ := encoding.Encode(v, encoding.Choose(v))
		p := api.Predicate{Op: api.OpLe, Value: at(v, len(v.Nulls)/2)}
		checkFilter(t, b, v.Type, len(v.Nulls), p, members(v, p))
	}
}

func TestFilterWithOtherOperators(t *testing.T) {
	others := []int{math.MinInt, -1, 0, 16, 19, 22, 23, 100, 256 + api.OpEq, 1<<32 + api.OpEq, 1<<32 + api.PredIsNull, math.MaxInt}
	for op := api.OpAnd; op <= api.OpLike; op++ {
		others = append(others, op)
	}
	for _, op := range others {
		p := api.Predicate{Op: op, Value: api.Value{Kind: api.Int, Int: 7}}
		for _, b := range [][]byte{nil, {9}, {1, 1, 14, 3}, {1, 1, 14, 0}} { // valid, and with errors of other kinds
			for _, typ := range []int{api.Null, api.Bool, api.Int, api.Text, 4} {
				for _, n := range []int{-1, 0, 3, maxLength + 1} {
					if got, e := encoding.Filter(b, typ, n, p); e != api.ErrArg || got.N != 0 || len(got.Words) != 0 {
						t.Errorf("Filter(%x, %d, %d) with op %d has N %d, error %d", b, typ, n, op, got.N, e)
					}
				}
			}
		}
	}
}

func TestFilterReportsTheErrorOfDecode(t *testing.T) {
	for _, b := range sequences([]byte{0, 1, 2, 4, 128}, 4) {
		for typ := api.Null; typ <= api.Text+1; typ++ {
			for _, n := range []int{-1, 0, 1, 2, maxLength + 1} {
				_, _, want := encoding.Decode(b, typ, n)
				for _, op := range operators() {
					got, e := encoding.Filter(b, typ, n, api.Predicate{Op: op})
					if e != want || e != api.OK && (got.N != 0 || len(got.Words) != 0) {
						t.Fatalf("Filter(%x, %d, %d) with op %d has N %d, error %d, want %d", b, typ, n, op, got.N, e, want)
					}
				}
			}
		}
	}
}

// P12.5

func TestDecodeInvertsEncodeInEveryEncoding(t *testing.T) {
	for _, v := range append(samples(), longVectors()...) {
		for _, enc := range applicable(v.Type) {
			b, e := encoding.Encode(v, enc)
			if e != api.OK {
				t.Fatalf("%s: Encode with %d has error %d", describe(v), enc, e)
			}
			kept := slices.Clone(b)
			checkDecoded(t, b, v, len(b))
			checkDecoded(t, append(slices.Clip(b), 0), v, len(b))
			checkDecoded(t, append(slices.Clip(b), 0xff, 0x80, 1, 2, 3, 4, 5, 6), v, len(b))
			if !bytes.Equal(b, kept) {
				t.Fatalf("%s: Decode changed %.40x to %.40x", describe(v), kept, b)
			}
		}
	}
}

func TestNoFormIsSmallerThanTheChosenOne(t *testing.T) {
	for _, v := range append(samples(), longVectors()...) {
		best, e := encoding.Encode(v, encoding.Choose(v))
		if e != api.OK {
			t.Fatalf("%s: encoding %d does not apply", describe(v), encoding.Choose(v))
		}
		for enc := range count {
			if b, e := encoding.Encode(v, enc); e == api.OK && len(b) < len(best) {
				t.Fatalf("%s: %d bytes in encoding %d, %d in the chosen one", describe(v), len(b), enc, len(best))
			}
		}
	}
}

func TestResultsShareNoMemory(t *testing.T) {
	for _, v := range []api.Vector{ints(5, 5, 7), ints(1<<40, 2, 3), bools(1, 0, 1), texts("b", "a", "b"), texts("abc", "abd", "abd")} {
		kept := clone(v)
		for _, enc := range applicable(v.Type) {
			b, _ := encoding.Encode(v, enc)
			other, _ := encoding.Encode(v, enc)
			first, _, _ := encoding.Decode(b, v.Type, 3)
			second, _, _ := encoding.Decode(b, v.Type, 3)
			p := api.Predicate{Op: api.PredNotNull}
			filtered, _ := encoding.Filter(b, v.Type, 3, p)
			more, _ := encoding.Filter(b, v.Type, 3, p)
			clear(b) // the strings hold their own bytes
			clear(first.Ints)
			clear(first.Texts)
			first.Nulls[0] = true
			clear(filtered.Words)
			if !equal(v, kept) || !equal(second, kept) || !bytes.Equal(other, form(v, enc)) || bitset.Count(more) != 3 {
				t.Errorf("%s, encoding %d: a result changed with another one: %s", describe(kept), enc, describe(second))
			}
		}
		costs := encoding.Costs(v)
		want := encoding.Costs(v)
		clear(costs)
		if got := encoding.Costs(v); !slices.Equal(got, want) {
			t.Errorf("%s: the costs changed to %v", describe(v), got)
		}
	}
}
