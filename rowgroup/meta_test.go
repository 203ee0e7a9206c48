package rowgroup_test

import (
	"bytes"
	"encoding/binary"
	"math"
	"slices"
	"strings"
	"testing"

	"lamina/api"
	"lamina/bloom"
	"lamina/rowgroup"
	"lamina/varint"
	"lamina/zonemap"
)

// metaForm returns the encoding of g by its definition.
func metaForm(g api.RowGroup) []byte {
	b := binary.AppendUvarint(binary.AppendUvarint(nil, uint64(g.Rows)), uint64(len(g.Zones)))
	for i := range g.Zones {
		b = binary.AppendUvarint(b, uint64(g.Offsets[i+1])-uint64(g.Offsets[i]))
	}
	for i, z := range g.Zones {
		b = slices.Concat(b, zonemap.Encode(z), bloom.Encode(g.Blooms[i]))
	}
	return b
}

// groups are valid metadata, also of chunks as long as they may be.
func groups(t *testing.T) []api.RowGroup {
	var all []api.RowGroup
	for _, source := range append(samples(), selections()...) {
		for _, bloomBits := range []int{0, 3, 16} {
			_, g, e := rowgroup.Encode(source, bloomBits)
			if e != api.OK {
				t.Fatal(e)
			}
			all = append(all, g)
		}
	}
	for _, size := range []int{1, 127, 128, 1<<30 - 1, 1 << 30} {
		g := api.RowGroup{Rows: 4096, Offsets: []int{0}}
		for i := range 64 {
			g.Offsets = append(g.Offsets, (i+1)*size)
			g.Zones = append(g.Zones, api.ZoneMap{Rows: 4096, Nulls: i, Min: number(int64(-i)), Max: number(int64(size))})
			g.Blooms = append(g.Blooms, api.BloomFilter{})
		}
		all = append(all, g)
	}
	return all
}

// metaExample is metadata and its encoding.
type metaExample struct {
	g    api.RowGroup
	want string
}

func metaExamples() []metaExample {
	zero := api.BloomFilter{Hashes: 5, Bits: api.Bitset{N: 64, Words: []uint64{0x0002001100080004}}}
	return []metaExample{
		{api.RowGroup{Rows: 2, Offsets: []int{0, 14}, Zones: []api.ZoneMap{{Rows: 2, Nulls: 1, Min: number(1), Max: number(1)}}, Blooms: []api.BloomFilter{{}}},
			"\x02\x01\x0e" + "\x02\x01\x02\x02\x02\x02" + "\x00\x00"},
		{api.RowGroup{Rows: 2, Offsets: []int{0, 14}, Zones: []api.ZoneMap{{Rows: 2, Nulls: 1, Min: number(0), Max: number(0)}}, Blooms: []api.BloomFilter{zero}},
			"\x02\x01\x0e" + "\x02\x01\x02\x00\x02\x00" + "\x05\x40\x04\x00\x08\x00\x11\x00\x02\x00"},
		{api.RowGroup{Rows: 1, Offsets: []int{0, 1}, Zones: []api.ZoneMap{{Rows: 1, Nulls: 1}}, Blooms: []api.BloomFilter{{}}},
			"\x01\x01\x01" + "\x01\x01" + "\x00\x00"},
		{api.RowGroup{Rows: 4096, Offsets: []int{0, 300, 301}, Zones: []api.ZoneMap{{Rows: 4096, Nulls: 4096}, {Rows: 4096, Min: number(-1), Max: number(1)}}, Blooms: []api.BloomFilter{zero, {}}},
			"\x80\x20\x02\xac\x02\x01" + "\x80\x20\x80\x20" + "\x05\x40\x04\x00\x08\x00\x11\x00\x02\x00" + "\x80\x20\x00\x02\x01\x02\x02" + "\x00\x00"},
		{api.RowGroup{Rows: 1, Offsets: []int{0, 1 << 30}, Zones: []api.ZoneMap{{Rows: 1, Nulls: 1}}, Blooms: []api.BloomFilter{{}}},
			"\x01\x01\x80\x80\x80\x80\x04" + "\x01\x01" + "\x00\x00"},
	}
}

// checkMeta fails unless DecodeMeta returns these results.
func checkMeta(t *testing.T, name string, b []byte, offset int, want api.RowGroup, wantNext int, wantE api.Errno) {
	t.Helper()
	if g, next, e := rowgroup.DecodeMeta(b, offset); e != wantE || next != wantNext || !sameGroup(g, want) {
		t.Errorf("%s: DecodeMeta(%.40x, %d) = %.80v, %d, error %d, want %.80v, %d, error %d", name, b, offset, g, next, e, want, wantNext, wantE)
	}
}

// P18.4

func TestMetadataOfAFewGroups(t *testing.T) {
	for _, x := range metaExamples() {
		if got := rowgroup.EncodeMeta(x.g); string(got) != x.want {
			t.Errorf("EncodeMeta(%v) = %x, want %x", x.g, got, x.want)
		}
		checkMeta(t, "example", []byte(x.want), 0, x.g, len(x.want), api.OK)
	}
}

// P18.4 and P18.6
func TestDecodeMetaInvertsEncodeMeta(t *testing.T) {
	for _, g := range groups(t) {
		before := cloneGroup(g)
		b := rowgroup.EncodeMeta(g)
		if want := metaForm(before); !bytes.Equal(b, want) || !sameGroup(g, before) {
			t.Fatalf("EncodeMeta of %.80v = %.40x, want %.40x", before, b, want)
		}
		around := slices.Concat([]byte{1, 128}, b, []byte{1, 128, 0})
		checkMeta(t, "alone", b, 0, g, len(b), api.OK)
		checkMeta(t, "the first", slices.Concat(b, b), 0, g, len(b), api.OK)
		checkMeta(t, "at offset 2", around, 2, g, 2+len(b), api.OK)
		checkMeta(t, "the second", slices.Concat(b, b), len(b), g, 2*len(b), api.OK)
	}
}

func TestDecodeMetaAtOffsetsThatAreNotValid(t *testing.T) {
	for _, b := range [][]byte{nil, {1}, []byte(metaExamples()[0].want)} {
		for _, offset := range []int{math.MinInt, -1, len(b) + 1, 1 << 32, math.MaxInt} {
			checkMeta(t, "offset", b, offset, api.RowGroup{}, 0, api.ErrArg)
		}
		checkMeta(t, "offset at the end", b, len(b), api.RowGroup{}, 0, api.ErrShort)
	}
}

// badNumbers are numbers of a row group with an error; they end with the first byte that decides it.
func badNumbers() map[string]api.Errno {
	huge, half := strings.Repeat("\xff", 9)+"\x01", strings.Repeat("\x80", 9)+"\x01"
	long := strings.Repeat("\xff", 9) + "\x02"
	all := map[string]api.Errno{}
	for start, wrong := range map[string][]string{
		"":                 {"\x00", "\x81\x20", "\x80\x40", "\x82\x80\x80\x80\x10"}, // 0, 4097, 8192 and 2^32 + 2 rows
		"\x02":             {"\x00", "\x41", "\x80\x01", "\x81\x80\x80\x80\x10"},     // 0, 65, 128 and 2^32 + 1 columns
		"\x80\x20\x01":     {"\x00", "\x81\x80\x80\x80\x04", "\x80\x80\x80\x80\x08", "\x81\x80\x80\x80\x10"},
		"\x02\x02\x05":     {"\x00", "\x81\x80\x80\x80\x04", "\x80\x80\x80\x80\x08", "\x81\x80\x80\x80\x10"},
		"\x02\x03\x05\x01": {"\x00", "\x81\x80\x80\x80\x04"},
	} {
		for _, number := range append(wrong, huge, half) {
			all[start+number] = api.ErrRange
		}
		for _, cut := range []string{"", "\x81", "\xff\xff"} {
			all[start+cut] = api.ErrShort
		}
		for _, number := range []string{"\x81\x00", "\x80\x80\x00", long} {
			all[start+number] = api.ErrFormat
		}
	}
	return all
}

// TestDecodeMetaOfBadNumbers: each number is looked at before the next one is read.
func TestDecodeMetaOfBadNumbers(t *testing.T) {
	rest := "\x01\x01" + "\x05\x05" + "\x02\x02\x00\x00" + "\x02\x02\x00\x00"
	for b, want := range badNumbers() {
		checkMeta(t, "bad number", []byte(b), 0, api.RowGroup{}, 0, want)
		checkMeta(t, "bad number at offset 3", []byte("abc"+b), 3, api.RowGroup{}, 0, want)
		if want != api.ErrShort {
			checkMeta(t, "bad number and more", []byte(b+rest), 0, api.RowGroup{}, 0, want)
		}
	}
}

func TestDecodeMetaOfBadZoneMapsAndFilters(t *testing.T) {
	one, two := "\x02\x01\x05", "\x02\x02\x05\x05" // the numbers of two rows with one column or two
	nulls, three := "\x02\x02", "\x03\x03"
	for _, x := range []struct {
		name, b string
		want    api.Errno
	}{
		{"good", one + nulls + "\x00\x00", api.OK},
		{"no zone map", one, api.ErrShort},
		{"zone map cut", one + "\x02", api.ErrShort},
		{"zone map without bounds", one + "\x02\x01", api.ErrShort},
		{"zone map without a maximum", one + "\x02\x01\x02\x02", api.ErrShort},
		{"zone map with bounds of no kind", one + "\x02\x01\x09\x02\x02\x02", api.ErrFormat},
		{"Rows of the zone map too long", one + "\x82\x00\x02" + "\x00\x00", api.ErrFormat},
		{"more NULLs than rows", one + "\x02\x03" + "\x00\x00", api.ErrFormat},
		{"minimum above maximum", one + "\x02\x00\x02\x04\x02\x02" + "\x00\x00", api.ErrFormat},
		{"no filter", one + nulls, api.ErrShort},
		{"filter cut", one + nulls + "\x05", api.ErrShort},
		{"12 hashes", one + nulls + "\x0c\x40" + "12345678", api.ErrFormat},
		{"a word cut", one + nulls + "\x05\x40" + "1234567", api.ErrShort},
		{"a filter", one + nulls + "\x05\x40" + "12345678", api.OK},
		{"zone map of 3 rows", one + three + "\x00\x00", api.ErrFormat},
		{"zone map of 1 row", one + "\x01\x01" + "\x00\x00", api.ErrFormat},
		{"zone map of no rows", one + "\x00\x00" + "\x00\x00", api.ErrFormat},
		{"zone map of 2^32 + 2 rows", one + "\x82\x80\x80\x80\x10\x82\x80\x80\x80\x10" + "\x00\x00", api.ErrFormat},
		{"zone map of 3 rows, one not NULL", one + "\x03\x02\x02\x02\x02\x02" + "\x00\x00", api.ErrFormat},
		// A column is a zone map and a filter, and the errors of both come before that of its rows.
		{"zone map of 3 rows, no filter", one + three, api.ErrShort},
		{"zone map of 3 rows, filter cut", one + three + "\x05\x40" + "1234567", api.ErrShort},
		{"zone map of 3 rows, 12 hashes", one + three + "\x0c\x40", api.ErrFormat},
		// The first column with an error decides.
		{"two good columns", two + nulls + "\x00\x00" + nulls + "\x00\x00", api.OK},
		{"no second zone map", two + nulls + "\x00\x00", api.ErrShort},
		{"no second filter", two + nulls + "\x00\x00" + nulls, api.ErrShort},
		{"second zone map of 3 rows", two + nulls + "\x00\x00" + three + "\x00\x00", api.ErrFormat},
		{"both zone maps of 3 rows", two + three + "\x00\x00" + three + "\x00\x00", api.ErrFormat},
		{"first zone map of 3 rows, second missing", two + three + "\x00\x00", api.ErrFormat},
		{"12 hashes, second zone map missing", two + nulls + "\x0c\x40", api.ErrFormat},
	} {
		g, next, e := rowgroup.DecodeMeta([]byte(x.b), 0)
		if e != x.want || e == api.OK && (next != len(x.b) || g.Rows != 2) {
			t.Errorf("%s: DecodeMeta = %v, %d, error %d, want error %d", x.name, g, next, e, x.want)
		}
		if e != api.OK && (next != 0 || !sameGroup(g, api.RowGroup{})) {
			t.Errorf("%s: DecodeMeta = %v, %d beside an error", x.name, g, next)
		}
	}
}

// modelNumbers reads rows, columns and chunk sizes.
func modelNumbers(b []byte, offset int) (numbers []uint64, next int, e api.Errno) {
	limits := []uint64{4096, 64}
	for k := 0; k < len(limits); k++ {
		n, after, e := varint.Decode(b, offset)
		if e != api.OK {
			return nil, 0, e
		}
		if n == 0 || n > limits[k] {
			return nil, 0, api.ErrRange
		}
		if k == 1 {
			limits = append(limits, slices.Repeat([]uint64{1 << 30}, int(n))...)
		}
		numbers, offset = append(numbers, n), after
	}
	return numbers, offset, api.OK
}

// model decodes b step by step, as the promise lists the steps.
func model(b []byte, offset int) (api.RowGroup, int, api.Errno) {
	numbers, next, e := modelNumbers(b, offset)
	if e != api.OK {
		return api.RowGroup{}, 0, e
	}
	g := api.RowGroup{Rows: int(numbers[0]), Offsets: []int{0}}
	total := 0
	for _, size := range numbers[2:] {
		total += int(size)
		g.Offsets = append(g.Offsets, total)
		g.Zones, g.Blooms = append(g.Zones, api.ZoneMap{}), append(g.Blooms, api.BloomFilter{})
	}
	for i := range g.Zones {
		if g.Zones[i], next, e = zonemap.Decode(b, next); e != api.OK {
			return api.RowGroup{}, 0, e
		}
		if g.Blooms[i], next, e = bloom.Decode(b, next); e != api.OK {
			return api.RowGroup{}, 0, e
		}
		if g.Zones[i].Rows != g.Rows {
			return api.RowGroup{}, 0, api.ErrFormat
		}
	}
	return g, next, api.OK
}

// checkAgainstModel compares DecodeMeta with the model, and returns whether b was accepted; what is accepted is encoded to the same bytes (P18.6).
func checkAgainstModel(t *testing.T, b []byte, offset int) bool {
	t.Helper()
	want, wantNext, wantE := model(b, offset)
	checkMeta(t, "model", b, offset, want, wantNext, wantE)
	if wantE != api.OK {
		return false
	}
	if again := rowgroup.EncodeMeta(want); !bytes.Equal(again, b[offset:wantNext]) {
		t.Errorf("%.40x is decoded to %.80v, which is encoded as %.40x", b[offset:wantNext], want, again)
	}
	return true
}

func TestDecodeMetaAgreesWithTheModel(t *testing.T) {
	accepted := 0
	all := sequences([]byte{0, 1, 2, 128}, 7)
	for _, start := range []string{"\x01\x01\x05", "\x02\x01\x05", "\x02\x02\x05\x01\x02\x02\x00\x00", "\x80\x20\x01\x01\x80\x20"} {
		for _, rest := range sequences([]byte{0, 1, 2, 4, 32, 128}, 6) {
			all = append(all, append([]byte(start), rest...))
		}
	}
	for _, b := range all {
		for _, offset := range []int{0, 1} {
			if checkAgainstModel(t, b, offset) {
				accepted++
			}
		}
	}
	if accepted < 100 {
		t.Errorf("%d sequences were accepted", accepted)
	}
}

func TestDecodeMetaOfDamagedBytes(t *testing.T) {
	for k, g := range groups(t) {
		b := rowgroup.EncodeMeta(g)
		if k%7 != 0 || len(b) > 600 {
			continue
		}
		for cut := range b {
			checkMeta(t, "cut", b[:cut], 0, api.RowGroup{}, 0, api.ErrShort)
			checkAgainstModel(t, b, cut)
		}
		for p := range 8 * len(b) {
			b[p/8] ^= 1 << (p % 8)
			checkAgainstModel(t, b, 0)
			b[p/8] ^= 1 << (p % 8)
		}
	}
}

// TestEncodeMetaOfMetadataThatIsNotValid: nothing is promised but an end without a panic, and that DecodeMeta returns valid metadata alone.
func TestEncodeMetaOfMetadataThatIsNotValid(t *testing.T) {
	for name, g := range spoiled(t) {
		if got, _, e := rowgroup.DecodeMeta(rowgroup.EncodeMeta(g), 0); e == api.OK && sameGroup(got, g) {
			t.Errorf("%s: DecodeMeta returns it", name)
		}
	}
}

// TestChunksTooLongForDecodeMeta: metadata of them is valid, but P18.6 leaves it out.
func TestChunksTooLongForDecodeMeta(t *testing.T) {
	for _, size := range []int{1<<30 + 1, 1 << 31, 1 << 32, math.MaxInt} {
		_, g := encode(t, column1(api.Int, number(1)))
		g.Offsets[1] = size
		checkMeta(t, "a chunk above 2^30 bytes", rowgroup.EncodeMeta(g), 0, api.RowGroup{}, 0, api.ErrRange)
	}
}

// TestBytesAreNotChanged also looks behind the end of the slice.
func TestBytesAreNotChanged(t *testing.T) {
	b := slices.Concat(rowgroup.EncodeMeta(metaExamples()[1].g), []byte("behind"))
	before := slices.Clone(b)
	rowgroup.DecodeMeta(b[:len(b)-6], 0)
	if !bytes.Equal(b, before) {
		t.Error("DecodeMeta changed its argument")
	}
}
