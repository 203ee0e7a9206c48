package column_test

import (
	"bytes"
	"encoding/binary"
	"hash/crc32"
	"math"
	"slices"
	"strconv"
	"strings"
	"testing"

	"lamina/api"
	"lamina/bitset"
	"lamina/column"
	"lamina/encoding"
	"lamina/value"
	"lamina/varint"
)

// vectorOf returns the vector of the values, which are NULL or of the type.
func vectorOf(typ int, values ...api.Value) api.Vector {
	v := api.Vector{Type: typ}
	for _, x := range values {
		v.Nulls = append(v.Nulls, x.Kind == api.Null)
		switch typ {
		case api.Bool, api.Int:
			v.Ints = append(v.Ints, x.Int)
		case api.Text:
			v.Texts = append(v.Texts, x.Text)
		}
	}
	return v
}

// list returns the value of v in each row.
func list(v api.Vector) []api.Value {
	values := make([]api.Value, len(v.Nulls))
	for i, null := range v.Nulls {
		switch {
		case null:
		case v.Type == api.Text:
			values[i] = text(v.Texts[i])
		default:
			values[i] = api.Value{Kind: v.Type, Int: v.Ints[i]}
		}
	}
	return values
}

func null() api.Value          { return api.Value{} }
func number(n int64) api.Value { return api.Value{Kind: api.Int, Int: n} }
func truth(n int64) api.Value  { return api.Value{Kind: api.Bool, Int: n} }
func text(s string) api.Value  { return api.Value{Kind: api.Text, Text: s} }

func nulls(n int) api.Vector                { return vectorOf(api.Null, make([]api.Value, n)...) }
func ints(values ...api.Value) api.Vector   { return vectorOf(api.Int, values...) }
func bools(values ...api.Value) api.Vector  { return vectorOf(api.Bool, values...) }
func strung(values ...api.Value) api.Vector { return vectorOf(api.Text, values...) }

// equal reports whether a and b are equal; nil and empty slices are.
func equal(a, b api.Vector) bool {
	return a.Type == b.Type && slices.Equal(a.Ints, b.Ints) && slices.Equal(a.Texts, b.Texts) && slices.Equal(a.Nulls, b.Nulls)
}

func clone(v api.Vector) api.Vector {
	return api.Vector{Type: v.Type, Ints: slices.Clone(v.Ints), Texts: slices.Clone(v.Texts), Nulls: slices.Clone(v.Nulls)}
}

// describe tells what v is in a few words.
func describe(v api.Vector) string {
	s := "type " + strconv.Itoa(v.Type) + ", " + strconv.Itoa(len(v.Nulls)) + " rows"
	for _, n := range v.Ints[:min(8, len(v.Ints))] {
		s += " " + strconv.FormatInt(n, 10)
	}
	for _, text := range v.Texts[:min(8, len(v.Texts))] {
		s += " " + strconv.Quote(text[:min(10, len(text))])
	}
	for i := range min(8, len(v.Nulls)) {
		s += " " + strconv.FormatBool(v.Nulls[i])
	}
	return s
}

// seal returns b with its CRC-32C, as computed by the library of Go.
func seal(b string) []byte {
	crc := crc32.Checksum([]byte(b), crc32.MakeTable(crc32.Castagnoli))
	return binary.LittleEndian.AppendUint32([]byte(b), crc)
}

// open returns what b seals.
func open(b []byte) string {
	return string(b[:len(b)-4])
}

// form returns the column chunk of v by its definition.
func form(v api.Vector) []byte {
	b := binary.AppendUvarint([]byte{byte(v.Type)}, uint64(len(v.Nulls)))
	if v.Type == api.Null {
		return seal(string(b))
	}
	var absent []int
	var present []api.Value
	for i, x := range list(v) {
		if x.Kind == api.Null {
			absent = append(absent, i)
		} else {
			present = append(present, x)
		}
	}
	b = binary.AppendUvarint(b, uint64(len(absent)))
	if len(absent) > 0 {
		b = append(b, bitset.Encode(bitset.Of(len(v.Nulls), absent...))...)
	}
	values := vectorOf(v.Type, present...)
	encoded, _ := encoding.Encode(values, encoding.Choose(values))
	return seal(string(b) + string(encoded))
}

// sequences returns all sequences of up to length elements of the alphabet.
func sequences[T any](alphabet []T, length int) [][]T {
	all := [][]T{{}}
	for start := 0; length > 0; length-- {
		end := len(all)
		for _, s := range all[start:end] {
			for _, x := range alphabet {
				all = append(all, append(slices.Clone(s), x))
			}
		}
		start = end
	}
	return all
}

// valueLists returns lists of n values of all types, some for each encoding, by the type.
func valueLists(n int) map[int][][]api.Value {
	lists := map[int][][]api.Value{api.Bool: make([][]api.Value, 4), api.Int: make([][]api.Value, 6), api.Text: make([][]api.Value, 5)}
	mixed := uint64(n)
	for i := range n {
		mixed = mixed*6364136223846793005 + 1442695040888963407
		for k, x := range []int{0, 1, i * 3 / n % 2, int(mixed >> 63)} {
			lists[api.Bool][k] = append(lists[api.Bool][k], truth(int64(x)))
		}
		for k, x := range []int64{0, math.MinInt64, int64(i)*1000 - 5, int64(i*5/n) << 50, int64(mixed>>50) - 100, int64(mixed)} {
			lists[api.Int][k] = append(lists[api.Int][k], number(x))
		}
		for k, s := range []string{
			"", "long word " + strconv.Itoa(int(mixed>>61)), "row " + strconv.Itoa(100000+i), strconv.FormatUint(mixed, 36), strings.Repeat("\xff", i%20),
		} {
			lists[api.Text][k] = append(lists[api.Text][k], text(s))
		}
	}
	return lists
}

// nullRules tell which rows of the samples are NULL.
func nullRules() []func(i, n int) bool {
	mixed := func(i int) uint64 { return (uint64(i) + 7) * 0x9E3779B97F4A7C15 >> 32 }
	return []func(i, n int) bool{
		func(i, n int) bool { return false },
		func(i, n int) bool { return true },
		func(i, n int) bool { return i == 0 },
		func(i, n int) bool { return i == n-1 },
		func(i, n int) bool { return i != n/2 },
		func(i, n int) bool { return i%2 == 0 },
		func(i, n int) bool { return i/64%2 == 1 },
		func(i, n int) bool { return mixed(i)%3 == 0 },
	}
}

// vectors returns vectors of n rows of all types, with NULLs by each rule.
func vectors(n int) []api.Vector {
	all := []api.Vector{nulls(n)}
	lists := valueLists(n)
	for _, typ := range []int{api.Bool, api.Int, api.Text} {
		for _, values := range lists[typ] {
			for _, isNull := range nullRules() {
				changed := slices.Clone(values)
				for i := range changed {
					if isNull(i, n) {
						changed[i] = null()
					}
				}
				all = append(all, vectorOf(typ, changed...))
			}
		}
	}
	return all
}

// shortVectors returns all short vectors of a few values, and some of long strings.
func shortVectors() []api.Vector {
	var all []api.Vector
	for _, l := range sequences([]api.Value{null()}, 5) {
		all = append(all, vectorOf(api.Null, l...))
	}
	for _, l := range sequences([]api.Value{null(), truth(0), truth(1)}, 6) {
		all = append(all, vectorOf(api.Bool, l...))
	}
	for _, l := range sequences([]api.Value{null(), number(0), number(-1), number(200), number(math.MinInt64)}, 4) {
		all = append(all, vectorOf(api.Int, l...))
	}
	for _, l := range sequences([]api.Value{null(), text(""), text("a"), text("ab"), text("\xff")}, 4) {
		all = append(all, vectorOf(api.Text, l...))
	}
	long := text(strings.Repeat("x", api.MaxText))
	return append(all, strung(long), strung(null(), long, null()), strung(long, long, null(), text("x"), long))
}

func samples() []api.Vector {
	all := shortVectors()
	for _, n := range []int{5, 8, 17, 63, 64, 65, 127, 128, 129, 300} {
		all = append(all, vectors(n)...)
	}
	return all
}

// longVectors returns vectors with as many rows as a chunk may have, and one less.
func longVectors() []api.Vector {
	return append(vectors(api.MaxGroupRows), vectors(api.MaxGroupRows-1)...)
}

// operators returns those of predicates.
func operators() []int {
	return []int{api.OpEq, api.OpNe, api.OpLt, api.OpLe, api.OpGt, api.OpGe, api.PredIsNull, api.PredNotNull}
}

// checkRefused fails unless Decode, Filter and Gather report the error, and nothing beside it.
func checkRefused(t *testing.T, name string, b []byte, want api.Errno) {
	t.Helper()
	if v, e := column.Decode(b); e != want || !equal(v, api.Vector{}) {
		t.Errorf("%s: Decode(%.40x) is %s, error %d, want error %d", name, b, describe(v), e, want)
	}
	for _, op := range append(operators(), 0, api.OpAnd, -1) {
		if s, e := column.Filter(b, api.Predicate{Op: op}); e != want || s.N != 0 || len(s.Words) != 0 {
			t.Errorf("%s: Filter(%.40x) with op %d has N %d, error %d, want error %d", name, b, op, s.N, e, want)
		}
	}
	for _, indices := range [][]int{nil, {0}, {-1}, {5000}} { // also ones that are out of range
		if v, e := column.Gather(b, indices); e != want || !equal(v, api.Vector{}) {
			t.Errorf("%s: Gather(%.40x, %d) is %s, error %d, want error %d", name, b, indices, describe(v), e, want)
		}
	}
}

// checkHeader fails unless Header returns these results.
func checkHeader(t *testing.T, name string, b []byte, typ, rows, nulls int, want api.Errno) {
	t.Helper()
	if gotTyp, gotRows, gotNulls, e := column.Header(b); gotTyp != typ || gotRows != rows || gotNulls != nulls || e != want {
		t.Errorf("%s: Header(%.40x) = %d, %d, %d, error %d, want %d, %d, %d, error %d", name, b, gotTyp, gotRows, gotNulls, e, typ, rows, nulls, want)
	}
}

// example is a vector and what its chunk seals.
type example struct {
	v     api.Vector
	want  string
	nulls int
}

func examples() []example {
	most := strings.Repeat("x", api.MaxText)
	return []example{
		{nulls(0), "\x00\x00", 0},
		{nulls(2), "\x00\x02", 2},
		{nulls(127), "\x00\x7f", 127},
		{nulls(128), "\x00\x80\x01", 128},
		{nulls(api.MaxGroupRows), "\x00\x80\x20", api.MaxGroupRows},
		{bools(), "\x01\x00\x00\x00", 0},
		{ints(), "\x02\x00\x00\x00", 0},
		{strung(), "\x03\x00\x00\x00", 0},
		{ints(number(7), null(), number(7)), "\x02\x03\x01" + "\x03\x01\x01\x01" + "\x01\x01\x0e\x02", 1},
		{ints(number(7), number(7), number(7)), "\x02\x03\x00" + "\x01\x01\x0e\x03", 0},
		{ints(null()), "\x02\x01\x01" + "\x01\x00\x01" + "\x00", 1},
		{ints(null(), number(-1)), "\x02\x02\x01" + "\x02\x00\x01\x01" + "\x01\x01\x01\x01", 1},
		{ints(number(5), number(4), null(), number(7), number(6)), "\x02\x05\x01" + "\x05\x02\x01\x02" + "\x02\x08\x02\x00\xb1", 1},
		{ints(number(0), number(1000)), "\x02\x02\x00" + "\x01\x02\x00\x01\xd0\x0f\x01", 0},
		{ints(number(math.MaxInt64)), "\x02\x01\x00" + "\x00\xff\xff\xff\xff\xff\xff\xff\x7f", 0},
		{bools(null(), truth(1)), "\x01\x02\x01" + "\x02\x00\x01\x01" + "\x00\x01", 1},
		{bools(truth(0), truth(1), truth(1)), "\x01\x03\x00" + "\x00\x06", 0},
		{bools(truth(1), null(), null(), truth(0)), "\x01\x04\x02" + "\x04\x01\x02\x01" + "\x00\x01", 2},
		{strung(null(), null(), null()), "\x03\x03\x03" + "\x03\x00\x03" + "\x00", 3},
		{strung(text("a"), null(), text("")), "\x03\x03\x01" + "\x03\x01\x01\x01" + "\x00\x01a\x00", 1},
		{strung(text("a"), text("a"), null(), text("a")), "\x03\x04\x01" + "\x04\x02\x01\x01" + "\x04\x01\x01a\x00", 1},
		{strung(text("abc"), text("abd"), null(), text("abe")), "\x03\x04\x01" + "\x04\x02\x01\x01" + "\x05\x00\x03abc\x02\x01d\x02\x01e", 1},
		{strung(text(most)), "\x03\x01\x00" + "\x00\x80\x20" + most, 0},
	}
}

// P13.1

func TestEncodeOfAFewVectors(t *testing.T) {
	for _, x := range examples() {
		if got, e := column.Encode(x.v); e != api.OK || !bytes.Equal(got, seal(x.want)) {
			t.Errorf("%s: Encode = %.60x, error %d, want %.60x", describe(x.v), got, e, seal(x.want))
		}
	}
}

func TestEncodeAgreesWithTheDefinition(t *testing.T) {
	for _, v := range append(samples(), longVectors()...) {
		before := clone(v)
		if got, e := column.Encode(v); e != api.OK || !bytes.Equal(got, form(before)) {
			t.Fatalf("%s: Encode = %.60x, error %d, want %.60x", describe(v), got, e, form(before))
		}
		if !equal(v, before) {
			t.Fatalf("%s: the vector was changed", describe(before))
		}
	}
}

func TestEncodeOfTooManyRows(t *testing.T) {
	for _, n := range []int{api.MaxGroupRows + 1, api.MaxGroupRows + 2, 3 * api.MaxGroupRows, 65537} {
		for _, v := range vectors(n) {
			if got, e := column.Encode(v); e != api.ErrCount || len(got) != 0 {
				t.Fatalf("%s: Encode has %d bytes, error %d", describe(v), len(got), e)
			}
		}
	}
}

// TestVectorsThatAreNotValid only asks for an end without a panic.
func TestVectorsThatAreNotValid(t *testing.T) {
	marks := [][]bool{nil, {false}, {true}, {true, false, false}, {true, true, true}}
	for _, typ := range []int{math.MinInt, -1, api.Null, api.Bool, api.Int, api.Text, 4, 256 + api.Int, math.MaxInt} {
		for _, numbers := range [][]int64{nil, {7}, {7, -1}, {7, 0, 1, 2}} {
			for _, texts := range [][]string{nil, {"a"}, {"a", strings.Repeat("x", api.MaxText+1)}} {
				for _, rows := range marks {
					column.Encode(api.Vector{Type: typ, Ints: numbers, Texts: texts, Nulls: rows})
				}
			}
		}
	}
}

// P13.2

func TestHeaderAndDecodeOfAFewChunks(t *testing.T) {
	for _, x := range examples() {
		b := seal(x.want)
		checkHeader(t, describe(x.v), b, x.v.Type, len(x.v.Nulls), x.nulls, api.OK)
		if got, e := column.Decode(b); e != api.OK || !equal(got, x.v) {
			t.Errorf("Decode(%.60x) is %s, error %d, want %s", b, describe(got), e, describe(x.v))
		}
	}
}

func TestBytesThatAreNotSealed(t *testing.T) {
	for _, b := range [][]byte{nil, {}, {0}, {0, 0}, {0, 0, 0}, {2, 3, 1}} {
		checkHeader(t, "short", b, 0, 0, 0, api.ErrShort)
		checkRefused(t, "short", b, api.ErrShort)
	}
	for _, b := range [][]byte{{0, 0, 0, 1}, {0, 0, 0, 0, 0}, {0, 2, 0, 0, 0, 0}, []byte("some bytes"), append(seal("\x00\x02"), 0)} {
		checkHeader(t, "not sealed", b, 0, 0, 0, api.ErrChecksum)
		checkRefused(t, "not sealed", b, api.ErrChecksum)
	}
	for _, x := range examples() { // the checksum counts before anything else
		b := seal(x.want)
		for cut := 1; cut <= min(len(b), 12); cut++ {
			want := api.ErrChecksum
			if len(b)-cut < 4 {
				want = api.ErrShort
			}
			checkHeader(t, "cut", b[:len(b)-cut], 0, 0, 0, want)
			checkRefused(t, "cut", b[:len(b)-cut], want)
		}
	}
}

// huge is 2^64 - 1.
const huge = "\xff\xff\xff\xff\xff\xff\xff\xff\xff\x01"

func TestErrorsOfTheHeader(t *testing.T) {
	for _, c := range []struct {
		name, b string
		want    api.Errno
	}{
		{"no type", "", api.ErrShort},
		{"type 4", "\x04", api.ErrFormat},
		{"type 4 before a number that is missing", "\x04\x80", api.ErrFormat},
		{"type 4, otherwise a chunk", "\x04\x01\x01\x01\x00\x01\x00", api.ErrFormat},
		{"type 128", "\x80\x00", api.ErrFormat},
		{"type 255", "\xff\x00\x00\x00", api.ErrFormat},
		{"Null without a number of rows", "\x00", api.ErrShort},
		{"Null, number of rows cut", "\x00\x80", api.ErrShort},
		{"Null, number of rows too long", "\x00\x82\x00", api.ErrFormat},
		{"Null, 4097 rows", "\x00\x81\x20", api.ErrCount},
		{"Null, 4097 rows and more bytes", "\x00\x81\x20\x00", api.ErrCount},
		{"Null, 2^64 - 1 rows", "\x00" + huge, api.ErrCount},
		{"Bool without a number of rows", "\x01", api.ErrShort},
		{"Int without a number of rows", "\x02", api.ErrShort},
		{"Text without a number of rows", "\x03", api.ErrShort},
		{"number of rows cut", "\x02\x80", api.ErrShort},
		{"number of rows too long", "\x02\x81\x00", api.ErrFormat},
		{"number of rows beyond 64 bits", "\x02" + strings.Repeat("\xff", 9) + "\x02", api.ErrFormat},
		{"4097 rows", "\x02\x81\x20", api.ErrCount},
		{"4097 rows and no NULLs", "\x02\x81\x20\x00\x01\x01\x00\x81\x20", api.ErrCount},
		{"4097 rows, number of NULLs too long", "\x02\x81\x20\x81\x00", api.ErrCount},
		{"2^32 + 1 rows", "\x02\x81\x80\x80\x80\x10\x00", api.ErrCount},
		{"2^63 rows", "\x02\x80\x80\x80\x80\x80\x80\x80\x80\x80\x01\x00", api.ErrCount},
		{"2^64 - 1 rows", "\x03" + huge + "\x00", api.ErrCount},
		{"no number of NULLs", "\x01\x03", api.ErrShort},
		{"no number of NULLs, 4096 rows", "\x02\x80\x20", api.ErrShort},
		{"no number of NULLs, no rows", "\x03\x00", api.ErrShort},
		{"number of NULLs cut", "\x02\x03\x80", api.ErrShort},
		{"number of NULLs too long", "\x02\x03\x81\x00", api.ErrFormat},
		{"more NULLs than rows", "\x02\x03\x04", api.ErrRange},
		{"a NULL but no row", "\x03\x00\x01\x00", api.ErrRange},
		{"4097 NULLs of 4096 rows", "\x01\x80\x20\x81\x20", api.ErrRange},
		{"2^32 + 1 NULLs", "\x02\x03\x81\x80\x80\x80\x10", api.ErrRange},
		{"2^64 - 1 NULLs", "\x02\x03" + huge, api.ErrRange},
	} {
		checkHeader(t, c.name, seal(c.b), 0, 0, 0, c.want)
		checkRefused(t, c.name, seal(c.b), c.want)
	}
}

func TestErrorsAfterTheHeader(t *testing.T) {
	plain7 := "\x07\x00\x00\x00\x00\x00\x00\x00"
	for _, c := range []struct {
		name, b          string
		typ, rows, nulls int
		want             api.Errno
	}{
		{"Null with a number of NULLs", "\x00\x02\x02", api.Null, 2, 2, api.ErrLong},
		{"Null with a set of NULLs", "\x00\x02\x02\x00\x02", api.Null, 2, 2, api.ErrLong},
		{"Null without rows, more bytes", "\x00\x00\x00", api.Null, 0, 0, api.ErrLong},
		{"no set of NULLs", "\x02\x03\x01", api.Int, 3, 1, api.ErrShort},
		{"set of NULLs cut", "\x02\x03\x01\x03", api.Int, 3, 1, api.ErrShort},
		{"set of NULLs cut after a run", "\x02\x03\x01\x03\x01", api.Int, 3, 1, api.ErrShort},
		{"N of the set of NULLs too long", "\x02\x03\x01\x83\x00", api.Int, 3, 1, api.ErrFormat},
		{"set of NULLs with an empty run", "\x02\x03\x01\x03\x01\x00", api.Int, 3, 1, api.ErrFormat},
		{"set of NULLs with a run beyond N", "\x02\x03\x01\x03\x01\x03", api.Int, 3, 1, api.ErrFormat},
		{"set of NULLs of 1048577 rows", "\x02\x03\x01\x81\x80\x40", api.Int, 3, 1, api.ErrRange},
		{"set of NULLs of four rows", "\x02\x03\x01\x04\x01\x01\x02\x01\x01\x0e\x02", api.Int, 3, 1, api.ErrCount},
		{"set of NULLs of two rows", "\x02\x03\x01\x02\x01\x01\x01\x01\x0e\x02", api.Int, 3, 1, api.ErrCount},
		{"set of NULLs of no rows", "\x02\x03\x01\x00\x01\x01\x0e\x02", api.Int, 3, 1, api.ErrCount},
		{"more NULLs in the set", "\x02\x03\x01\x03\x00\x02\x01\x01\x01\x0e\x02", api.Int, 3, 1, api.ErrCount},
		{"fewer NULLs in the set", "\x02\x03\x02\x03\x01\x01\x01\x01\x01\x0e\x01", api.Int, 3, 2, api.ErrCount},
		{"no NULLs in the set", "\x02\x03\x01\x03\x03\x01\x01\x0e\x02", api.Int, 3, 1, api.ErrCount},
		{"wrong set of NULLs, then a cut", "\x02\x03\x01\x03\x00\x02\x01", api.Int, 3, 1, api.ErrCount},
		{"wrong set of NULLs, then no encoding", "\x02\x03\x01\x03\x00\x02\x01\x09", api.Int, 3, 1, api.ErrCount},
		{"a set of no NULLs, which is read as an encoding", "\x02\x06\x00\x06\x06\x01\x01\x0e\x06", api.Int, 6, 0, api.ErrFormat},
		{"no values", "\x02\x03\x01\x03\x01\x01\x01", api.Int, 3, 1, api.ErrShort},
		{"no values, all NULL", "\x02\x01\x01\x01\x00\x01", api.Int, 1, 1, api.ErrShort},
		{"no values, no rows", "\x03\x00\x00", api.Text, 0, 0, api.ErrShort},
		{"values cut", "\x02\x01\x00\x01\x01", api.Int, 1, 0, api.ErrShort},
		{"unknown encoding", "\x02\x01\x00\x06", api.Int, 1, 0, api.ErrFormat},
		{"encoding of strings", "\x02\x01\x00\x04\x01\x01a\x00", api.Int, 1, 0, api.ErrFormat},
		{"encoding of numbers", "\x03\x01\x00\x01\x01\x0e\x01", api.Text, 1, 0, api.ErrFormat},
		{"too few values", "\x02\x03\x00\x01\x01\x0e\x02", api.Int, 3, 0, api.ErrCount},
		{"a value for each row, one NULL", "\x02\x03\x01\x03\x01\x01\x01\x01\x01\x0e\x03", api.Int, 3, 1, api.ErrCount},
		{"the Bool 2", "\x01\x09\x00\x01\x01\x04\x09", api.Bool, 9, 0, api.ErrFormat},
		{"Text of 4097 bytes", "\x03\x01\x00\x00\x81\x20" + strings.Repeat("x", 4097), api.Text, 1, 0, api.ErrLong},
		{"run of 65537", "\x02\x01\x00\x01\x01\x0e\x81\x80\x04", api.Int, 1, 0, api.ErrRange},
		{"bytes after the values", "\x02\x01\x00\x01\x01\x0e\x01\x00", api.Int, 1, 0, api.ErrLong},
		{"bytes after no values", "\x03\x00\x00\x00\x00", api.Text, 0, 0, api.ErrLong},
		{"bytes after NULLs", "\x01\x01\x01\x01\x00\x01\x00\x00", api.Bool, 1, 1, api.ErrLong},
		{"another encoding, larger", "\x02\x02\x00\x00" + plain7 + plain7, api.Int, 2, 0, api.ErrFormat},
		{"another encoding, larger, and NULLs", "\x02\x02\x01\x02\x00\x01\x01\x00" + plain7, api.Int, 2, 1, api.ErrFormat},
		{"another encoding of the same size", "\x02\x01\x00\x02\x0e\x00\x00", api.Int, 1, 0, api.ErrFormat},
		{"another encoding of no numbers", "\x02\x00\x00\x01\x00", api.Int, 0, 0, api.ErrFormat},
		{"another encoding of no strings", "\x03\x01\x01\x01\x00\x01\x05", api.Text, 1, 1, api.ErrFormat},
		{"runs of Bools", "\x01\x02\x00\x01\x01\x02\x02", api.Bool, 2, 0, api.ErrFormat},
		{"dictionary of the same size", "\x03\x02\x00\x04\x01\x01a\x00", api.Text, 2, 0, api.ErrFormat},
		{"another encoding and bytes after it", "\x02\x01\x00\x02\x0e\x00\x00\x00", api.Int, 1, 0, api.ErrLong},
	} {
		checkHeader(t, c.name, seal(c.b), c.typ, c.rows, c.nulls, api.OK)
		checkRefused(t, c.name, seal(c.b), c.want)
	}
}

// modelHeader reads what b seals step by step, as the promise lists the steps, and returns the offset after the header as well.
func modelHeader(b []byte) (typ, rows, nulls, next int, e api.Errno) {
	if len(b) == 0 {
		return 0, 0, 0, 0, api.ErrShort
	}
	if b[0] > 3 {
		return 0, 0, 0, 0, api.ErrFormat
	}
	n, next, e := varint.Decode(b, 1)
	if e != api.OK {
		return 0, 0, 0, 0, e
	}
	if n > 4096 {
		return 0, 0, 0, 0, api.ErrCount
	}
	if b[0] == 0 {
		return 0, int(n), int(n), next, api.OK
	}
	k, next, e := varint.Decode(b, next)
	if e == api.OK && k > n {
		e = api.ErrRange
	}
	if e != api.OK {
		return 0, 0, 0, 0, e
	}
	return int(b[0]), int(n), int(k), next, api.OK
}

// model decodes what b seals step by step, as the promise lists the steps.
func model(b []byte) (api.Vector, api.Errno) {
	typ, rows, count, next, e := modelHeader(b)
	if e != api.OK {
		return api.Vector{}, e
	}
	absent := bitset.New(rows)
	if typ == api.Null {
		absent = bitset.Not(absent)
	} else {
		if count > 0 {
			absent, next, e = bitset.Decode(b, next)
			if e == api.OK && (absent.N != rows || bitset.Count(absent) != count) {
				e = api.ErrCount
			}
			if e != api.OK {
				return api.Vector{}, e
			}
		}
	}
	var present []api.Value
	if typ != api.Null {
		found, size, e := encoding.Decode(b[next:], typ, rows-count)
		if e != api.OK {
			return api.Vector{}, e
		}
		present, next = list(found), next+size
	}
	if next < len(b) {
		return api.Vector{}, api.ErrLong
	}
	values := make([]api.Value, rows)
	for i := range values {
		if !bitset.Contains(absent, i) {
			values[i] = present[i-bitset.Rank(absent, i)]
		}
	}
	v := vectorOf(typ, values...)
	if !bytes.Equal(form(v), seal(string(b))) {
		return api.Vector{}, api.ErrFormat
	}
	return v, api.OK
}

// checkAgainstModel compares Header and Decode of a chunk that seals b with the model, and returns whether it was accepted; what is accepted is encoded to the same bytes.
func checkAgainstModel(t *testing.T, b []byte) bool {
	t.Helper()
	typ, rows, count, _, e := modelHeader(b)
	sealed := seal(string(b))
	checkHeader(t, "model", sealed, typ, rows, count, e)
	want, wantE := model(b)
	got, e := column.Decode(sealed)
	if e != wantE || !equal(got, want) {
		t.Fatalf("Decode of %.40x, sealed, is %s, error %d, want %s, error %d", b, describe(got), e, describe(want), wantE)
	}
	if e != api.OK {
		return false
	}
	if again, e := column.Encode(got); e != api.OK || !bytes.Equal(again, sealed) {
		t.Fatalf("%.40x is decoded to %s, which is encoded as %.40x, error %d", sealed, describe(got), again, e)
	}
	return true
}

// TestDecodeAgreesWithTheModel tries all short sequences of bytes that matter, and all that follow a few starts.
func TestDecodeAgreesWithTheModel(t *testing.T) {
	accepted := [4]int{}
	all := sequences([]byte{0, 1, 2, 3, 4, 128}, 6)
	for _, start := range []string{"\x01\x02\x01", "\x01\x03\x00", "\x02\x02\x01\x02", "\x02\x03\x02\x03", "\x03\x02\x01\x02", "\x03\x03\x02\x03", "\x03\x03\x00", "\x02\x03\x00\x01", "\x02\x03\x01\x03\x01\x01\x01\x01"} {
		for _, rest := range sequences([]byte{0, 1, 2, 3, 5}, 6) {
			all = append(all, append([]byte(start), rest...))
		}
	}
	for _, b := range all {
		if checkAgainstModel(t, b) {
			accepted[b[0]]++
		}
	}
	if accepted[api.Null] < 5 || slices.Min(accepted[1:]) < 20 {
		t.Errorf("sequences that were accepted for each type: %d", accepted)
	}
}

func TestDecodeOfDamagedChunksThatAreSealedAgain(t *testing.T) {
	for k, v := range samples() {
		b := []byte(open(form(v)))
		if len(b) > 60 || k%17 != 0 {
			continue
		}
		for cut := range b {
			checkAgainstModel(t, b[:cut])
		}
		for p := range 8 * len(b) {
			b[p/8] ^= 1 << (p % 8)
			checkAgainstModel(t, b)
			b[p/8] ^= 1 << (p % 8)
		}
		for _, more := range []string{"\x00", "\x01", "\x80", "\xff", "\x00\x00\x00\x00"} {
			checkAgainstModel(t, slices.Concat(b, []byte(more)))
		}
	}
}

// TestOtherEncodingsAreRefused encodes the values in every encoding that applies.
func TestOtherEncodingsAreRefused(t *testing.T) {
	for k, v := range samples() {
		if k%5 != 0 || v.Type == api.Null {
			continue
		}
		var values []api.Value
		for _, x := range list(v) {
			if x.Kind != api.Null {
				values = append(values, x)
			}
		}
		present := vectorOf(v.Type, values...)
		chosen, _ := encoding.Encode(present, encoding.Choose(present))
		whole := open(form(v))
		start := strings.TrimSuffix(whole, string(chosen))
		for _, c := range encoding.Costs(present) {
			b, e := encoding.Encode(present, c.Encoding)
			if e == api.OK && c.Encoding != encoding.Choose(present) {
				checkRefused(t, describe(v), seal(start+string(b)), api.ErrFormat)
			}
		}
	}
}

// P13.3

// checkFilter fails unless Filter finds these rows among n.
func checkFilter(t *testing.T, b []byte, n int, p api.Predicate, want []int) {
	t.Helper()
	got, e := column.Filter(b, p)
	if e != api.OK || got.N != n || !bitset.Valid(got) || !slices.Equal(slices.Collect(bitset.All(got)), want) {
		t.Fatalf("Filter(%.40x, op %d, %v) = %v, error %d, want %d", b, p.Op, p.Value, got, e, want)
	}
}

func TestFilterOfAFewVectors(t *testing.T) {
	none, all := []int(nil), []int{0, 1, 2, 3}
	numbers := ints(number(5), null(), number(-5), number(7))
	truths := bools(truth(1), truth(0), null(), truth(1))
	texts := strung(null(), text("b"), text("a"), text("ba"))
	for _, c := range []struct {
		v    api.Vector
		x    api.Value
		want [8][]int // by the order of operators
	}{
		{numbers, number(5), [8][]int{{0}, {2, 3}, {2}, {0, 2}, {3}, {0, 3}, {1}, {0, 2, 3}}},
		{numbers, number(6), [8][]int{none, {0, 2, 3}, {0, 2}, {0, 2}, {3}, {3}, {1}, {0, 2, 3}}},
		{numbers, number(0), [8][]int{none, {0, 2, 3}, {2}, {2}, {0, 3}, {0, 3}, {1}, {0, 2, 3}}}, // 0 is in Ints for the NULL
		{numbers, number(math.MinInt64), [8][]int{none, {0, 2, 3}, none, none, {0, 2, 3}, {0, 2, 3}, {1}, {0, 2, 3}}},
		{truths, truth(1), [8][]int{{0, 3}, {1}, {1}, {0, 1, 3}, none, {0, 3}, {2}, {0, 1, 3}}},
		{truths, truth(0), [8][]int{{1}, {0, 3}, none, {1}, {0, 3}, {0, 1, 3}, {2}, {0, 1, 3}}},
		{texts, text("b"), [8][]int{{1}, {2, 3}, {2}, {1, 2}, {3}, {1, 3}, {0}, {1, 2, 3}}},
		{texts, text(""), [8][]int{none, {1, 2, 3}, none, none, {1, 2, 3}, {1, 2, 3}, {0}, {1, 2, 3}}},
		// A comparison with NULL or with a value of another kind is true for no row.
		{numbers, truth(1), [8][]int{6: {1}, 7: {0, 2, 3}}},
		{numbers, null(), [8][]int{6: {1}, 7: {0, 2, 3}}},
		{numbers, text("5"), [8][]int{6: {1}, 7: {0, 2, 3}}},
		{truths, number(1), [8][]int{6: {2}, 7: {0, 1, 3}}},
		{texts, null(), [8][]int{6: {0}, 7: {1, 2, 3}}},
		{texts, number(1), [8][]int{6: {0}, 7: {1, 2, 3}}},
		{nulls(4), null(), [8][]int{6: all}},
		{nulls(4), number(0), [8][]int{6: all}},
		{ints(null(), null(), null(), null()), number(0), [8][]int{6: all}},
		{strung(null(), null(), null(), null()), text(""), [8][]int{6: all}},
		{ints(number(1), number(1), number(1), number(1)), number(1), [8][]int{0: all, 3: all, 5: all, 7: all}},
	} {
		b := form(c.v)
		for k, op := range operators() {
			for _, index := range []int{0, 1, -1, math.MaxInt} { // is ignored
				checkFilter(t, b, 4, api.Predicate{Column: index, Op: op, Value: c.x}, c.want[k])
			}
		}
	}
}

func TestFilterWithOtherOperatorsFindsNoRow(t *testing.T) {
	others := []int{math.MinInt, -1, 0, 16, 19, 22, 23, 256 + api.OpEq, 1<<32 + api.OpEq, 1<<32 + api.PredIsNull, math.MaxInt}
	for op := api.OpAnd; op <= api.OpLike; op++ {
		others = append(others, op)
	}
	for _, v := range []api.Vector{nulls(2), bools(truth(1), null()), ints(number(1), null()), strung(text("a"), null())} {
		for _, x := range []api.Value{null(), truth(1), number(1), text("a")} {
			for _, op := range others {
				checkFilter(t, form(v), 2, api.Predicate{Op: op, Value: x}, nil)
			}
		}
	}
}

// members returns the rows for which p is true.
func members(v api.Vector, p api.Predicate) []int {
	var rows []int
	for i, x := range list(v) {
		kept := false
		switch p.Op {
		case api.PredIsNull:
			kept = x == null()
		case api.PredNotNull:
			kept = x != null()
		default:
			kept = value.Test(p.Op, x, p.Value) == truth(1)
		}
		if kept {
			rows = append(rows, i)
		}
	}
	return rows
}

// operandsFor returns values to compare those of v with.
func operandsFor(v api.Vector) []api.Value {
	operands := []api.Value{null(), truth(0), truth(1), number(0), number(200), text(""), text("a")}
	if values := list(v); len(values) > 0 {
		operands = append(operands, values[0], values[len(values)/2], values[len(values)-1])
	}
	return operands
}

// P13.3 and P13.5: the rows are those of the vector.
func TestFilterAgreesWithTheVector(t *testing.T) {
	for k, v := range samples() {
		if k%7 != 0 {
			continue
		}
		b := form(v)
		for _, x := range operandsFor(v) {
			for _, op := range operators() {
				p := api.Predicate{Column: k, Op: op, Value: x}
				checkFilter(t, b, len(v.Nulls), p, members(v, p))
			}
		}
		if !bytes.Equal(b, form(v)) {
			t.Fatalf("%s: Filter changed the chunk", describe(v))
		}
	}
	for _, v := range longVectors() {
		p := api.Predicate{Op: api.OpLe, Value: list(v)[len(v.Nulls)/2]}
		checkFilter(t, form(v), len(v.Nulls), p, members(v, p))
		p = api.Predicate{Op: api.PredIsNull}
		checkFilter(t, form(v), len(v.Nulls), p, members(v, p))
	}
}

// picked returns the vector of the values with these indices.
func picked(v api.Vector, indices []int) api.Vector {
	var values []api.Value
	for _, i := range indices {
		values = append(values, list(v)[i])
	}
	return vectorOf(v.Type, values...)
}

func TestGatherOfAFewVectors(t *testing.T) {
	numbers := ints(number(7), null(), number(8))
	for _, c := range []struct {
		v       api.Vector
		indices []int
		want    api.Vector
	}{
		{ints(number(7), null(), number(7)), []int{2, 0, 1}, ints(number(7), number(7), null())},
		{numbers, []int{2, 0, 1}, ints(number(8), number(7), null())},
		{numbers, []int{0, 1, 2}, numbers},
		{numbers, []int{1, 1, 1, 1}, ints(null(), null(), null(), null())},
		{numbers, []int{2, 2, 0, 2, 1, 0}, ints(number(8), number(8), number(7), number(8), null(), number(7))},
		{numbers, []int{2}, ints(number(8))},
		{numbers, nil, ints()},
		{numbers, []int{}, ints()},
		{bools(truth(0), null(), truth(1)), []int{2, 1, 0, 2}, bools(truth(1), null(), truth(0), truth(1))},
		{strung(text("a"), null(), text("b")), []int{2, 1, 0, 2}, strung(text("b"), null(), text("a"), text("b"))},
		{strung(null(), null()), []int{1, 1, 0}, strung(null(), null(), null())},
		{nulls(3), []int{2, 0, 2, 1}, nulls(4)},
		{nulls(3), nil, nulls(0)},
		{strung(), nil, strung()},
		{bools(), nil, bools()},
		{nulls(0), nil, nulls(0)},
	} {
		if got, e := column.Gather(form(c.v), c.indices); e != api.OK || !equal(got, c.want) {
			t.Errorf("Gather of %s with %d is %s, error %d, want %s", describe(c.v), c.indices, describe(got), e, describe(c.want))
		}
	}
}

func TestGatherWithAnIndexOutOfRange(t *testing.T) {
	for _, v := range []api.Vector{
		nulls(0), nulls(3), bools(), bools(truth(1), null(), truth(0)), ints(), ints(number(7)), ints(null()),
		strung(), strung(text("a"), null()), vectors(64)[1], nulls(api.MaxGroupRows),
	} {
		n := len(v.Nulls)
		for _, i := range []int{math.MinInt, -n - 1, -2, -1, n, n + 1, 2*n + 1, 1 << 32, math.MaxInt} {
			lists := [][]int{{i}, {i, i}}
			if n > 0 {
				lists = append(lists, []int{0, i}, []int{i, 0}, []int{0, n - 1, i, 0})
			}
			for _, indices := range lists {
				if got, e := column.Gather(form(v), indices); e != api.ErrArg || !equal(got, api.Vector{}) {
					t.Errorf("Gather of %s with %d is %s, error %d", describe(v), indices, describe(got), e)
				}
			}
		}
	}
}

// P13.3 and P13.5: the values are those of the vector.
func TestGatherAgreesWithTheVector(t *testing.T) {
	for k, v := range append(samples(), longVectors()...) {
		n := len(v.Nulls)
		if k%5 != 0 || n == 0 {
			continue
		}
		indices := []int{n - 1, 0, 0, n / 2}
		mixed := uint64(k)
		for range min(2*n, 50) {
			mixed = mixed*6364136223846793005 + 1442695040888963407
			indices = append(indices, int(mixed>>33)%n)
		}
		kept := slices.Clone(indices)
		b := form(v)
		if got, e := column.Gather(b, indices); e != api.OK || !equal(got, picked(v, kept)) {
			t.Fatalf("Gather of %s with %d is %s, error %d", describe(v), kept, describe(got), e)
		}
		if !slices.Equal(indices, kept) || !bytes.Equal(b, form(v)) {
			t.Fatalf("%s: Gather changed its arguments", describe(v))
		}
	}
}

func TestGatherOfMoreValuesThanAChunkHasRows(t *testing.T) {
	v := ints(number(7), null(), number(9))
	var indices []int
	for i := range 3 * api.MaxGroupRows {
		indices = append(indices, i%3)
	}
	got, e := column.Gather(form(v), indices)
	if e != api.OK || len(got.Nulls) != len(indices) || len(got.Ints) != len(indices) {
		t.Fatalf("%s, error %d", describe(got), e)
	}
	for i, x := range list(got) {
		if x != list(v)[i%3] {
			t.Fatalf("value %d is %v", i, x)
		}
	}
}

// P13.4

func TestDecodeInvertsEncode(t *testing.T) {
	for _, v := range append(samples(), longVectors()...) {
		b, e := column.Encode(v)
		if e != api.OK {
			t.Fatalf("%s: Encode has error %d", describe(v), e)
		}
		kept := slices.Clone(b)
		if got, e := column.Decode(b); e != api.OK || !equal(got, v) {
			t.Fatalf("%s: Decode is %s, error %d", describe(v), describe(got), e)
		}
		checkHeader(t, describe(v), b, v.Type, len(v.Nulls), len(members(v, api.Predicate{Op: api.PredIsNull})), api.OK)
		if !bytes.Equal(b, kept) {
			t.Fatalf("%s: the chunk was changed", describe(v))
		}
	}
}

// P13.5

func TestOneFlippedBitIsFound(t *testing.T) {
	for k, v := range samples() {
		b := form(v)
		if k%97 != 0 && len(v.Nulls) > 1 || len(b) > 300 {
			continue
		}
		for p := range 8 * len(b) {
			b[p/8] ^= 1 << (p % 8)
			checkHeader(t, "flipped", b, 0, 0, 0, api.ErrChecksum)
			checkRefused(t, "flipped", b, api.ErrChecksum)
			b[p/8] ^= 1 << (p % 8)
		}
	}
	for _, v := range longVectors() {
		b := form(v)
		for p := 5; p < 8*len(b); p += 4*len(b) + 3 {
			b[p/8] ^= 1 << (p % 8)
			if _, e := column.Decode(b); e != api.ErrChecksum {
				t.Errorf("%s: bit %d was flipped, error %d", describe(v), p, e)
			}
			b[p/8] ^= 1 << (p % 8)
		}
	}
}

func TestResultsShareNoMemory(t *testing.T) {
	for _, v := range []api.Vector{nulls(3), bools(truth(1), null(), truth(1)), ints(number(5), null(), number(1<<40)), strung(text("b"), null(), text("b"))} {
		b, other := form(v), form(v)
		encoded, _ := column.Encode(v)
		more, _ := column.Encode(v)
		first, _ := column.Decode(b)
		second, _ := column.Decode(b)
		gathered, _ := column.Gather(b, []int{0, 1, 2})
		again, _ := column.Gather(b, []int{0, 1, 2})
		p := api.Predicate{Op: api.PredIsNull}
		filtered, _ := column.Filter(b, p)
		unchanged, _ := column.Filter(b, p)
		want := len(members(v, p))
		clear(b) // the strings hold their own bytes
		clear(encoded)
		for _, x := range []api.Vector{first, gathered} {
			clear(x.Ints)
			clear(x.Texts)
			clear(x.Nulls)
		}
		clear(filtered.Words)
		if !bytes.Equal(more, other) || !equal(second, v) || !equal(again, v) || bitset.Count(unchanged) != want {
			t.Errorf("%s: a result changed with another one: %s, %s", describe(v), describe(second), describe(again))
		}
	}
}
