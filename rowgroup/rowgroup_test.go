package rowgroup_test

import (
	"bytes"
	"encoding/binary"
	"hash/crc32"
	"math"
	"slices"
	"strconv"
	"strings"
	"testing"

	"lamina/api"
	"lamina/bloom"
	"lamina/column"
	"lamina/rowgroup"
	"lamina/value"
	"lamina/vector"
)

func null() api.Value          { return api.Value{} }
func number(n int64) api.Value { return api.Value{Kind: api.Int, Int: n} }
func truth(n int64) api.Value  { return api.Value{Kind: api.Bool, Int: n} }
func text(s string) api.Value  { return api.Value{Kind: api.Text, Text: s} }

// batchOf returns the batch of the rows, all of them selected.
func batchOf(types []int, rows ...api.Row) api.Batch {
	b, e := vector.FromRows(types, rows)
	if e != api.OK {
		panic(e)
	}
	return b
}

// column1 returns the batch with one column of the values.
func column1(typ int, values ...api.Value) api.Batch {
	return api.Batch{Columns: []api.Vector{vectorOf(typ, values...)}, Len: len(values), All: true}
}

func vectorOf(typ int, values ...api.Value) api.Vector {
	v, e := vector.FromValues(typ, values)
	if e != api.OK {
		panic(e)
	}
	return v
}

func chunkOf(typ int, values ...api.Value) []byte {
	b, e := column.Encode(vectorOf(typ, values...))
	if e != api.OK {
		panic(e)
	}
	return b
}

// mixedTypes are those of the rows of mixedRows.
func mixedTypes() []int {
	return []int{api.Int, api.Text, api.Null, api.Bool, api.Int}
}

// mixedRows returns n rows with columns of all types.
func mixedRows(n int) []api.Row {
	var rows []api.Row
	for i := range n {
		row := api.Row{number(int64(i*i%17) - 5), text("row " + strconv.Itoa(i%7)), null(), truth(int64(i / 3 % 2)), number(int64(i) << 40)}
		for c := range row {
			if (i+2*c)%5 == 0 {
				row[c] = null()
			}
		}
		rows = append(rows, row)
	}
	return rows
}

// mixed returns the batch of mixedRows.
func mixed(n int) api.Batch {
	return batchOf(mixedTypes(), mixedRows(n)...)
}

// selecting returns b with the rows at these indices selected.
func selecting(b api.Batch, indices ...int) api.Batch {
	b.All, b.Sel = false, indices
	return b
}

// upTo returns the indices below n.
func upTo(n int) []int {
	var indices []int
	for i := range n {
		indices = append(indices, i)
	}
	return indices
}

// sequences returns all sequences of up to length elements of the alphabet.
func sequences[T any](alphabet []T, length int) [][]T {
	all := [][]T{{}}
	for start := 0; length > 0; length-- {
		end := len(all)
		for _, s := range all[start:end] {
			for _, x := range alphabet {
				all = append(all, append(slices.Clone(s), x))
			}
		}
		start = end
	}
	return all
}

// alphabets returns a few values by type.
func alphabets() map[int][]api.Value {
	return map[int][]api.Value{
		api.Null: {null()},
		api.Bool: {null(), truth(0), truth(1)},
		api.Int:  {null(), number(0), number(-9), number(math.MaxInt64)},
		api.Text: {null(), text(""), text("a"), text("\xff")},
	}
}

// samples are batches that can be encoded.
func samples() []api.Batch {
	var all []api.Batch
	for typ, alphabet := range alphabets() {
		for _, values := range sequences(alphabet, 3)[1:] {
			all = append(all, column1(typ, values...))
		}
	}
	long := text(strings.Repeat("x", api.MaxText))
	all = append(all, column1(api.Text, long, null(), long), mixed(api.MaxGroupRows), mixed(api.MaxGroupRows-1))
	for _, n := range []int{1, 2, 3, 4, 5, 6, 7, 10, 63, 64, 65, 100, 300} {
		all = append(all, mixed(n))
	}
	for _, columns := range []int{2, 3, 63, 64} {
		types := slices.Repeat([]int{api.Int, api.Text}, columns)[:columns]
		row := slices.Repeat(api.Row{number(int64(columns)), text("t")}, columns)[:columns]
		all = append(all, batchOf(types, row, make(api.Row, columns), row))
	}
	return all
}

// selections are batches of which some rows are selected.
func selections() []api.Batch {
	all := []api.Batch{
		selecting(mixed(5), 0), selecting(mixed(5), 4), selecting(mixed(5), 0, 2), selecting(mixed(5), 1, 2, 3), selecting(mixed(5), 0, 1, 2, 3, 4),
		selecting(mixed(300), 64), selecting(mixed(300), 63, 64, 65, 299),
		selecting(mixed(3*api.MaxGroupRows), 3*api.MaxGroupRows-1), // a batch may be longer than a group
		selecting(mixed(2*api.MaxGroupRows), upTo(api.MaxGroupRows)...),
	}
	var odd []int
	for i := 1; i < 2*api.MaxGroupRows; i += 2 {
		odd = append(odd, i)
	}
	return append(all, selecting(mixed(2*api.MaxGroupRows), odd...))
}

// describe tells what b is in a few words.
func describe(b api.Batch) string {
	s := strconv.Itoa(len(b.Columns)) + " columns, " + strconv.Itoa(b.Len) + " rows, " + strconv.Itoa(len(b.Sel)) + " selected"
	for _, v := range b.Columns[:min(3, len(b.Columns))] {
		s += "; type " + strconv.Itoa(v.Type)
		for _, x := range vector.Values(v)[:min(4, len(v.Nulls))] {
			s += " " + strconv.Quote(x.Text[:min(10, len(x.Text))]) + "/" + strconv.FormatInt(x.Int, 10)
		}
	}
	return s
}

func sameFilter(a, b api.BloomFilter) bool {
	return a.Hashes == b.Hashes && a.Bits.N == b.Bits.N && slices.Equal(a.Bits.Words, b.Bits.Words)
}

func sameGroup(a, b api.RowGroup) bool {
	return a.Rows == b.Rows && slices.Equal(a.Offsets, b.Offsets) && slices.Equal(a.Zones, b.Zones) && slices.EqualFunc(a.Blooms, b.Blooms, sameFilter)
}

func sameVector(a, b api.Vector) bool {
	return a.Type == b.Type && slices.Equal(a.Ints, b.Ints) && slices.Equal(a.Texts, b.Texts) && slices.Equal(a.Nulls, b.Nulls)
}

func sameBatch(a, b api.Batch) bool {
	return a.Len == b.Len && a.All == b.All && slices.Equal(a.Sel, b.Sel) && slices.EqualFunc(a.Columns, b.Columns, sameVector)
}

func sameBits(a, b api.Bitset) bool {
	return a.N == b.N && slices.Equal(a.Words, b.Words)
}

func cloneGroup(g api.RowGroup) api.RowGroup {
	g.Offsets, g.Zones, g.Blooms = slices.Clone(g.Offsets), slices.Clone(g.Zones), slices.Clone(g.Blooms)
	for i := range g.Blooms {
		g.Blooms[i].Bits.Words = slices.Clone(g.Blooms[i].Bits.Words)
	}
	return g
}

func cloneBatch(b api.Batch) api.Batch {
	b.Sel, b.Columns = slices.Clone(b.Sel), slices.Clone(b.Columns)
	for i, v := range b.Columns {
		b.Columns[i] = api.Vector{Type: v.Type, Ints: slices.Clone(v.Ints), Texts: slices.Clone(v.Texts), Nulls: slices.Clone(v.Nulls)}
	}
	return b
}

// encode returns the row group of b with 8 Bloom filter bits per value.
func encode(t *testing.T, b api.Batch) ([]byte, api.RowGroup) {
	t.Helper()
	encoded, g, e := rowgroup.Encode(b, 8)
	if e != api.OK {
		t.Fatalf("Encode of %s: error %d", describe(b), e)
	}
	return encoded, g
}

// definition returns the row group of b by its definition.
func definition(b api.Batch, bloomBits int) ([]byte, api.RowGroup) {
	var all []byte
	rows := vector.Rows(b)
	g := api.RowGroup{Rows: len(rows), Offsets: []int{0}}
	for c, typ := range vector.Types(b) {
		var values, present []api.Value
		for _, row := range rows {
			values = append(values, row[c])
			if row[c] != null() {
				present = append(present, row[c])
			}
		}
		z := api.ZoneMap{Rows: len(values), Nulls: len(values) - len(present)}
		if len(present) > 0 {
			z.Min, z.Max = slices.MinFunc(present, value.Compare), slices.MaxFunc(present, value.Compare)
		}
		all = append(all, chunkOf(typ, values...)...)
		g.Offsets = append(g.Offsets, len(all))
		g.Zones = append(g.Zones, z)
		g.Blooms = append(g.Blooms, bloom.Build(present, bloomBits))
	}
	return all, g
}

// seal returns b with its CRC-32C, as computed by the library of Go.
func seal(b string) []byte {
	crc := crc32.Checksum([]byte(b), crc32.MakeTable(crc32.Castagnoli))
	return binary.LittleEndian.AppendUint32([]byte(b), crc)
}

// P18.1

func TestEncodeOfAFewRows(t *testing.T) {
	empty, zero := api.BloomFilter{}, api.BloomFilter{Hashes: 5, Bits: api.Bitset{N: 64, Words: []uint64{0x0002001100080004}}}
	blank := api.BloomFilter{Hashes: 5, Bits: api.Bitset{N: 64, Words: []uint64{0}}}
	ones := seal("\x02\x02\x01" + "\x02\x01\x01" + "\x01\x01\x02\x01")
	zeros := seal("\x02\x01\x00" + "\x01\x01\x00\x01")
	texts := seal("\x03\x01\x01" + "\x01\x00\x01" + "\x00")
	for _, x := range []struct {
		name      string
		b         api.Batch
		bloomBits int
		bytes     []byte
		g         api.RowGroup
	}{
		{"1 and NULL", column1(api.Int, number(1), null()), 0, ones, api.RowGroup{
			Rows: 2, Offsets: []int{0, len(ones)}, Zones: []api.ZoneMap{{Rows: 2, Nulls: 1, Min: number(1), Max: number(1)}}, Blooms: []api.BloomFilter{empty}}},
		{"1 and NULL, selected", selecting(column1(api.Int, number(9), number(1), number(8), null(), number(7)), 1, 3), 0, ones, api.RowGroup{
			Rows: 2, Offsets: []int{0, len(ones)}, Zones: []api.ZoneMap{{Rows: 2, Nulls: 1, Min: number(1), Max: number(1)}}, Blooms: []api.BloomFilter{empty}}},
		{"0 and a NULL text", batchOf([]int{api.Int, api.Text}, api.Row{number(0), null()}), 8, slices.Concat(zeros, texts), api.RowGroup{
			Rows: 1, Offsets: []int{0, len(zeros), len(zeros) + len(texts)},
			Zones:  []api.ZoneMap{{Rows: 1, Min: number(0), Max: number(0)}, {Rows: 1, Nulls: 1}},
			Blooms: []api.BloomFilter{zero, blank}}},
		{"0 and NULL", column1(api.Int, number(0), null()), 8, chunkOf(api.Int, number(0), null()), api.RowGroup{
			Rows: 2, Offsets: []int{0, len(ones)}, Zones: []api.ZoneMap{{Rows: 2, Nulls: 1, Min: number(0), Max: number(0)}},
			Blooms: []api.BloomFilter{zero}}}, // NULL is not in the filter
		{"NULLs without a type", column1(api.Null, null(), null(), null()), -1, seal("\x00\x03"), api.RowGroup{
			Rows: 3, Offsets: []int{0, 6}, Zones: []api.ZoneMap{{Rows: 3, Nulls: 3}}, Blooms: []api.BloomFilter{empty}}},
	} {
		b, g, e := rowgroup.Encode(x.b, x.bloomBits)
		if e != api.OK || !bytes.Equal(b, x.bytes) || !sameGroup(g, x.g) {
			t.Errorf("%s: Encode = %x, %v, error %d, want %x, %v", x.name, b, g, e, x.bytes, x.g)
		}
	}
}

func TestEncodeAgreesWithTheDefinition(t *testing.T) {
	for _, b := range append(samples(), selections()...) {
		for _, bloomBits := range []int{math.MinInt, -1, 0, 1, 2, 8, 15, 16, 17, math.MaxInt} {
			before := cloneBatch(b)
			want, wantG := definition(before, bloomBits)
			got, g, e := rowgroup.Encode(b, bloomBits)
			if e != api.OK || !bytes.Equal(got, want) || !sameGroup(g, wantG) {
				t.Fatalf("Encode of %s with %d bits = %.40x, error %d, want %.40x", describe(b), bloomBits, got, e, want)
			}
			if !sameBatch(b, before) {
				t.Fatalf("%s: the batch was changed", describe(before))
			}
		}
	}
}

func TestEncodeErrors(t *testing.T) {
	wide := func(columns, rows int) api.Batch {
		return api.Batch{Columns: slices.Repeat([]api.Vector{vector.Constant(api.Int, number(3), rows)}, columns), Len: rows, All: true}
	}
	for _, x := range []struct {
		name string
		b    api.Batch
		want api.Errno
	}{
		{"zero value", api.Batch{}, api.ErrCount},
		{"no rows", wide(1, 0), api.ErrCount},
		{"nothing selected", selecting(wide(2, 5)), api.ErrCount},
		{"no columns", api.Batch{Len: 3, All: true}, api.ErrCount},
		{"no columns, one selected", api.Batch{Len: 3, Sel: []int{1}}, api.ErrCount},
		{"no columns, as many rows as can be", api.Batch{Len: math.MaxInt32, All: true}, api.ErrCount},
		{"65 columns", wide(65, 1), api.ErrCount},
		{"65 columns, one selected", selecting(wide(65, 2), 0), api.ErrCount},
		{"100 columns", wide(100, 2), api.ErrCount},
		{"4097 rows", wide(1, 4097), api.ErrCount},
		{"4097 rows selected", selecting(wide(1, 4097), upTo(4097)...), api.ErrCount},
		{"4097 of more rows selected", selecting(wide(1, 5000), upTo(4097)...), api.ErrCount},
		{"10000 rows", wide(2, 10000), api.ErrCount},
		{"65 columns, 4097 rows", wide(65, 4097), api.ErrCount},
		{"1 column, 1 row", wide(1, 1), api.OK},
		{"64 columns", wide(64, 1), api.OK},
		{"4096 rows", wide(1, 4096), api.OK},
		{"4096 of more rows selected", selecting(wide(1, 5000), upTo(4096)...), api.OK},
		{"one of more rows selected", selecting(wide(1, 5000), 4999), api.OK},
	} {
		b, g, e := rowgroup.Encode(x.b, 8)
		if e != x.want {
			t.Errorf("%s: Encode has error %d, want %d", x.name, e, x.want)
		}
		if e != api.OK && (len(b) > 0 || !sameGroup(g, api.RowGroup{})) {
			t.Errorf("%s: Encode = %.40x, %v beside an error", x.name, b, g)
		}
	}
}

// TestBatchesThatAreNotValid only asks for an end without a panic.
func TestBatchesThatAreNotValid(t *testing.T) {
	vectors := []api.Vector{
		{}, {Type: 4}, {Type: -1, Nulls: []bool{false}}, {Type: math.MaxInt, Ints: []int64{1}}, {Type: api.Null, Nulls: []bool{false, true}},
		{Type: api.Int, Nulls: []bool{false, false}}, {Type: api.Int, Ints: []int64{1, 2, 3}}, {Type: api.Bool, Ints: []int64{7, -1}, Nulls: []bool{false, true}},
		{Type: api.Text, Texts: []string{strings.Repeat("x", 5000)}, Nulls: []bool{false, true}}, {Type: api.Text, Ints: []int64{1}, Nulls: []bool{false}},
	}
	for _, v := range vectors {
		for _, n := range []int{math.MinInt, -1, 0, 1, 2, 5, 4096, 4097, math.MaxInt} {
			rowgroup.Encode(api.Batch{Columns: []api.Vector{v}, Len: n, All: true}, 8)
			rowgroup.Encode(api.Batch{Columns: []api.Vector{vectorOf(api.Int, number(1)), v}, Len: n, All: true}, 8)
			rowgroup.Encode(api.Batch{Columns: []api.Vector{v}, Len: n, All: true, Sel: []int{5, 0}}, 8)
			for _, sel := range [][]int{{0}, {-1}, {n}, {1, 0}, {0, 0}, {math.MinInt, math.MaxInt}} {
				rowgroup.Encode(api.Batch{Columns: []api.Vector{v}, Len: n, Sel: sel}, 8)
			}
		}
	}
}

func TestResultsShareNoMemory(t *testing.T) {
	source := mixed(70)
	want, wantG := definition(source, 8)
	b, g := encode(t, source)
	other, otherG := encode(t, source)
	decoded, _ := rowgroup.Decode(b, g, mixedTypes())
	again, _ := rowgroup.Decode(b, g, mixedTypes())
	single, _ := rowgroup.Column(b, g, 1)
	rows, _ := rowgroup.Filter(b, g, nil)
	meta := rowgroup.EncodeMeta(g)
	read, _, _ := rowgroup.DecodeMeta(meta, 0)
	wantRows := mixed(70)
	wantVector := wantRows.Columns[1]
	clear(other)
	clear(meta)
	clear(otherG.Offsets)
	clear(otherG.Zones)
	for _, f := range otherG.Blooms {
		clear(f.Bits.Words)
	}
	for _, v := range slices.Concat(again.Columns, source.Columns) {
		clear(v.Ints)
		clear(v.Texts)
		clear(v.Nulls)
	}
	if !bytes.Equal(b, want) || !sameGroup(g, wantG) || !sameGroup(read, wantG) {
		t.Error("a row group changed with another one")
	}
	clear(b)
	clear(g.Offsets)
	if !sameBatch(decoded, wantRows) || !sameVector(single, wantVector) || !sameBits(rows, allRows(70)) {
		t.Error("a result changed with the row group")
	}
}
