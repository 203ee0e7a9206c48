package rowgroup_test

import (
	"bytes"
	"math"
	"slices"
	"strconv"
	"testing"

	"lamina/api"
	"lamina/rowgroup"
	"lamina/vector"
)

// checkColumn fails unless Column returns the vector, or the error and nothing beside it.
func checkColumn(t *testing.T, name string, b []byte, g api.RowGroup, i int, want api.Vector, wantE api.Errno) {
	t.Helper()
	if v, e := rowgroup.Column(b, g, i); e != wantE || !sameVector(v, want) {
		t.Errorf("%s: Column %d = %.80v, error %d, want %.80v, error %d", name, i, v, e, want, wantE)
	}
}

// checkDecode fails unless Decode returns the batch, or the error and nothing beside it.
func checkDecode(t *testing.T, name string, b []byte, g api.RowGroup, types []int, want api.Batch, wantE api.Errno) {
	t.Helper()
	if got, e := rowgroup.Decode(b, g, types); e != wantE || !sameBatch(got, want) {
		t.Errorf("%s: Decode to %d = %s, error %d, want %s, error %d", name, types, describe(got), e, describe(want), wantE)
	}
}

// checkFilter fails unless Filter returns the set, or the error and nothing beside it.
func checkFilter(t *testing.T, name string, b []byte, g api.RowGroup, predicates []api.Predicate, want api.Bitset, wantE api.Errno) {
	t.Helper()
	if got, e := rowgroup.Filter(b, g, predicates); e != wantE || !sameBits(got, want) {
		t.Errorf("%s: Filter by %v = %v, error %d, want %v, error %d", name, predicates, got, e, want, wantE)
	}
}

// spoiled returns metadata that is not valid, by what is wrong with it. All but one of the rules hold in each. The metadata is that of mixed(5).
func spoiled(t *testing.T) map[string]api.RowGroup {
	_, valid := encode(t, mixed(5))
	all := map[string]api.RowGroup{"zero value": {}}
	spoil := func(name string, change func(g *api.RowGroup)) {
		g := cloneGroup(valid)
		change(&g)
		all[name] = g
	}
	// Column by column, a group may have any number of rows and columns.
	uniform := func(rows, columns int) func(g *api.RowGroup) {
		return func(g *api.RowGroup) {
			zone := api.ZoneMap{Rows: rows, Nulls: max(0, rows)}
			*g = api.RowGroup{Rows: rows, Offsets: upTo(columns + 1), Zones: slices.Repeat([]api.ZoneMap{zone}, columns), Blooms: make([]api.BloomFilter, columns)}
		}
	}
	spoil("no rows", uniform(0, 5))
	spoil("4097 rows", uniform(4097, 5))
	spoil("no columns", uniform(1, 0))
	spoil("65 columns", uniform(1, 65))
	spoil("negative Rows", func(g *api.RowGroup) { g.Rows = -1 })
	spoil("greatest Rows", func(g *api.RowGroup) { g.Rows = math.MaxInt })
	spoil("fewer rows than the zone maps", func(g *api.RowGroup) { g.Rows = 4 })
	spoil("more rows than the zone maps", func(g *api.RowGroup) { g.Rows = 6 })
	spoil("a filter missing", func(g *api.RowGroup) { g.Blooms = g.Blooms[:4] })
	spoil("all filters missing", func(g *api.RowGroup) { g.Blooms = nil })
	spoil("a filter more", func(g *api.RowGroup) { g.Blooms = append(g.Blooms, api.BloomFilter{}) })
	spoil("a zone map missing", func(g *api.RowGroup) { g.Zones = g.Zones[:4] })
	spoil("a zone map more", func(g *api.RowGroup) { g.Zones = append(g.Zones, api.ZoneMap{Rows: 5, Nulls: 5}) })
	spoil("no offsets", func(g *api.RowGroup) { g.Offsets = nil })
	spoil("an offset missing", func(g *api.RowGroup) { g.Offsets = g.Offsets[:5] })
	spoil("an offset more", func(g *api.RowGroup) { g.Offsets = append(g.Offsets, math.MaxInt) })
	spoil("first offset 1", func(g *api.RowGroup) { g.Offsets[0] = 1 })
	spoil("first offset -1", func(g *api.RowGroup) { g.Offsets[0] = -1 })
	spoil("first chunk empty", func(g *api.RowGroup) { g.Offsets[1] = 0 })
	spoil("last chunk empty", func(g *api.RowGroup) { g.Offsets[5] = g.Offsets[4] })
	spoil("offsets decrease", func(g *api.RowGroup) { g.Offsets[2] = g.Offsets[1] - 1 })
	spoil("last offset negative", func(g *api.RowGroup) { g.Offsets[5] = math.MinInt })
	spoil("more NULLs than rows", func(g *api.RowGroup) { g.Zones[2].Nulls = 6 })
	spoil("minimum above maximum", func(g *api.RowGroup) { g.Zones[0].Min = number(math.MaxInt64) })
	spoil("last zone map of other rows", func(g *api.RowGroup) { g.Zones[4].Rows++ })
	spoil("zone map of other rows", func(g *api.RowGroup) { g.Zones[2] = api.ZoneMap{Rows: 4, Nulls: 4} })
	spoil("12 hashes", func(g *api.RowGroup) { g.Blooms[0].Hashes = 12 })
	spoil("a word missing", func(g *api.RowGroup) { g.Blooms[4].Bits.Words = nil })
	spoil("65 bits", func(g *api.RowGroup) { g.Blooms[3].Bits.N = 65 })
	return all
}

// P18.2

func TestMetadataThatIsNotValid(t *testing.T) {
	whole, valid := encode(t, mixed(5))
	checkDecode(t, "valid", whole, valid, mixedTypes(), mixed(5), api.OK)
	isNull := []api.Predicate{{Column: 0, Op: api.PredIsNull}}
	for name, g := range spoiled(t) {
		for _, b := range [][]byte{whole, nil, whole[:1], slices.Repeat(whole, 2)} { // ErrArg comes before ErrShort
			for _, i := range []int{0, 1, 4, -1, 5} {
				checkColumn(t, name, b, g, i, api.Vector{}, api.ErrArg)
			}
			checkDecode(t, name, b, g, mixedTypes(), api.Batch{}, api.ErrArg)
			checkDecode(t, name, b, g, make([]int, len(g.Zones)), api.Batch{}, api.ErrArg)
			checkFilter(t, name, b, g, nil, api.Bitset{}, api.ErrArg)
			checkFilter(t, name, b, g, isNull, api.Bitset{}, api.ErrArg)
		}
	}
}

// TestMetadataThatIsJustValid: what is left is an error of the bytes.
func TestMetadataThatIsJustValid(t *testing.T) {
	for _, g := range []api.RowGroup{
		{Rows: 1, Offsets: []int{0, 1}, Zones: []api.ZoneMap{{Rows: 1, Nulls: 1}}, Blooms: []api.BloomFilter{{}}},
		{Rows: 4096, Offsets: []int{0, math.MaxInt}, Zones: []api.ZoneMap{{Rows: 4096, Nulls: 4096}}, Blooms: []api.BloomFilter{{}}},
		{Rows: 4096, Offsets: upTo(65), Zones: slices.Repeat([]api.ZoneMap{{Rows: 4096, Nulls: 4096}}, 64), Blooms: make([]api.BloomFilter, 64)},
	} {
		types := make([]int, len(g.Zones))
		last := len(types) - 1
		checkColumn(t, "no bytes", nil, g, 0, api.Vector{}, api.ErrShort)
		checkColumn(t, "no bytes", nil, g, last, api.Vector{}, api.ErrShort)
		checkDecode(t, "no bytes", nil, g, types, api.Batch{}, api.ErrShort)
		checkFilter(t, "no bytes", nil, g, nil, api.Bitset{}, api.ErrShort)
		if size := g.Offsets[last+1]; size < 100 { // a chunk of one byte is no chunk
			checkColumn(t, "zeros", make([]byte, size), g, last, api.Vector{}, api.ErrShort)
			checkDecode(t, "zeros", make([]byte, size), g, types, api.Batch{}, api.ErrShort)
			checkFilter(t, "zeros", make([]byte, size), g, []api.Predicate{{Column: last, Op: api.OpEq}}, api.Bitset{}, api.ErrShort)
		}
	}
}

func TestColumnIndices(t *testing.T) {
	for _, source := range []api.Batch{mixed(3), column1(api.Int, number(1)), batchOf(make([]int, 64), make(api.Row, 64))} {
		b, g := encode(t, source)
		n := len(source.Columns)
		for i := range n {
			checkColumn(t, describe(source), b, g, i, source.Columns[i], api.OK)
		}
		for _, i := range []int{math.MinInt, -n, -1, n, n + 1, 64, 1 << 32, math.MaxInt} {
			checkColumn(t, describe(source), b, g, i, api.Vector{}, api.ErrArg)
			checkColumn(t, describe(source), nil, g, i, api.Vector{}, api.ErrArg)
		}
	}
}

func TestDecodeToOtherTypes(t *testing.T) {
	source := mixed(5)
	b, g := encode(t, source)
	right := mixedTypes()
	for _, types := range [][]int{nil, right[:4], append(mixedTypes(), api.Int), {99}, make([]int, 64)} {
		checkDecode(t, "other length", b, g, types, api.Batch{}, api.ErrArg)
		checkDecode(t, "other length, no bytes", nil, g, types, api.Batch{}, api.ErrArg)
		checkDecode(t, "other length, more bytes", append(slices.Clone(b), 0), g, types, api.Batch{}, api.ErrArg)
	}
	for i := range right {
		for _, typ := range []int{api.Null, api.Bool, api.Int, api.Text, 4, -1, 256 + right[i], math.MinInt, math.MaxInt} {
			types := mixedTypes()
			types[i] = typ
			if typ == right[i] {
				checkDecode(t, "right types", b, g, types, source, api.OK)
				continue
			}
			checkDecode(t, "other types", b, g, types, api.Batch{}, api.ErrType)
			checkDecode(t, "other types, more bytes", append(slices.Clone(b), 0), g, types, api.Batch{}, api.ErrType)
			checkDecode(t, "other types, a byte missing", b[:len(b)-1], g, types, api.Batch{}, api.ErrShort)
		}
	}
}

// P18.2 and P18.3: a missing byte is found whichever column is asked for, and a byte too many by Decode alone.
func TestBytesCutAndAppended(t *testing.T) {
	source := mixed(4)
	b, g := encode(t, source)
	predicates := []api.Predicate{{Column: 1, Op: api.PredIsNull}}
	for cut := range b {
		for i := range source.Columns {
			checkColumn(t, "cut", b[:cut], g, i, api.Vector{}, api.ErrShort)
		}
		checkDecode(t, "cut", b[:cut], g, mixedTypes(), api.Batch{}, api.ErrShort)
		checkFilter(t, "cut", b[:cut], g, nil, api.Bitset{}, api.ErrShort)
		checkFilter(t, "cut", b[:cut], g, predicates, api.Bitset{}, api.ErrShort)
	}
	want, _ := rowgroup.Filter(b, g, predicates)
	for _, more := range []string{"\x00", "\xff", "LMNA", string(b)} {
		long := append(slices.Clone(b), more...)
		for i, v := range source.Columns {
			checkColumn(t, "appended", long, g, i, v, api.OK)
		}
		checkDecode(t, "appended", long, g, mixedTypes(), api.Batch{}, api.ErrLong)
		checkFilter(t, "appended", long, g, predicates, want, api.OK)
	}
	checkDecode(t, "nothing appended", b, g, mixedTypes(), source, api.OK)
}

func TestOneFlippedBitIsFound(t *testing.T) {
	source := mixed(6)
	b, g := encode(t, source)
	for p := range 8 * len(b) {
		b[p/8] ^= 1 << (p % 8)
		damaged := slices.IndexFunc(g.Offsets, func(offset int) bool { return offset > p/8 }) - 1
		for i, v := range source.Columns {
			predicates := []api.Predicate{{Column: i, Op: api.PredNotNull}}
			if i == damaged {
				checkColumn(t, "flipped", b, g, i, api.Vector{}, api.ErrChecksum)
				checkFilter(t, "flipped", b, g, predicates, api.Bitset{}, api.ErrChecksum)
				continue
			}
			checkColumn(t, "flipped elsewhere", b, g, i, v, api.OK)
			checkFilter(t, "flipped elsewhere", b, g, predicates, rowsWhere(source, predicates), api.OK)
		}
		checkDecode(t, "flipped", b, g, mixedTypes(), api.Batch{}, api.ErrChecksum)
		checkFilter(t, "flipped", b, g, nil, allRows(6), api.OK)
		b[p/8] ^= 1 << (p % 8)
	}
}

// piece is a chunk in the place of one of three Ints: what it holds, or the error of Column.
type piece struct {
	name  string
	bytes []byte
	v     api.Vector
	e     api.Errno
}

func pieces() []piece {
	good := chunkOf(api.Int, number(1), null(), number(3))
	flipped := slices.Clone(good)
	flipped[4] ^= 8
	return []piece{
		{"good", good, vectorOf(api.Int, number(1), null(), number(3)), api.OK},
		{"other values", chunkOf(api.Int, number(-7), number(0), number(1<<50)), vectorOf(api.Int, number(-7), number(0), number(1<<50)), api.OK},
		{"texts", chunkOf(api.Text, text("a"), null(), text("")), vectorOf(api.Text, text("a"), null(), text("")), api.OK},
		{"no type", chunkOf(api.Null, null(), null(), null()), vectorOf(api.Null, null(), null(), null()), api.OK},
		{"flipped", flipped, api.Vector{}, api.ErrChecksum},
		{"three bytes", good[:3], api.Vector{}, api.ErrShort},
		{"sealed nothing", seal(""), api.Vector{}, api.ErrShort},
		{"type 4", seal("\x04\x03\x00\x00"), api.Vector{}, api.ErrFormat},
		{"5000 rows", seal("\x02\x88\x27"), api.Vector{}, api.ErrCount},
		{"4 NULLs", seal("\x02\x03\x04"), api.Vector{}, api.ErrRange},
		{"trailing byte", seal("\x00\x03\x00"), api.Vector{}, api.ErrLong},
		{"two rows", chunkOf(api.Int, number(1), null()), api.Vector{}, api.ErrCount},
		{"four rows", chunkOf(api.Int, number(1), null(), number(3), number(4)), api.Vector{}, api.ErrCount},
		{"no rows", chunkOf(api.Int), api.Vector{}, api.ErrCount},
		{"two texts", chunkOf(api.Text, text("a"), null()), api.Vector{}, api.ErrCount},
	}
}

// assemble returns the chunks and the metadata of three rows for them, which tells that all values are NULL.
func assemble(parts ...piece) ([]byte, api.RowGroup) {
	g := api.RowGroup{Rows: 3, Offsets: []int{0}}
	var b []byte
	for _, p := range parts {
		b = append(b, p.bytes...)
		g.Offsets = append(g.Offsets, len(b))
		g.Zones = append(g.Zones, api.ZoneMap{Rows: 3, Nulls: 3})
		g.Blooms = append(g.Blooms, api.BloomFilter{Hashes: 1, Bits: api.Bitset{N: 64, Words: []uint64{0}}})
	}
	return b, g
}

// assembled returns what Decode makes of the parts.
func assembled(types []int, parts ...piece) (api.Batch, api.Errno) {
	b := api.Batch{Len: 3, All: true}
	for i, p := range parts {
		if p.e != api.OK {
			return api.Batch{}, p.e
		}
		if p.v.Type != types[i] {
			return api.Batch{}, api.ErrType
		}
		b.Columns = append(b.Columns, p.v)
	}
	return b, api.OK
}

// TestOtherChunks puts all pairs of chunks side by side: Column reports what is wrong with its own, Decode the first error. Neither looks at what the metadata tells of the values.
func TestOtherChunks(t *testing.T) {
	for _, first := range pieces() {
		for _, second := range pieces() {
			b, g := assemble(first, second)
			name := first.name + ", " + second.name
			checkColumn(t, name, b, g, 0, first.v, first.e)
			checkColumn(t, name, b, g, 1, second.v, second.e)
			for _, types := range sequences([]int{api.Null, api.Bool, api.Int, api.Text, 4}, 2) {
				if len(types) != 2 {
					checkDecode(t, name, b, g, types, api.Batch{}, api.ErrArg)
					continue
				}
				want, e := assembled(types, first, second)
				checkDecode(t, name, b, g, types, want, e)
				checkDecode(t, name+", cut", b[:len(b)-1], g, types, api.Batch{}, api.ErrShort)
				if e == api.OK {
					e = api.ErrLong
				}
				checkDecode(t, name+", appended", append(slices.Clone(b), 0), g, types, api.Batch{}, e)
			}
		}
	}
}

// P18.5

func TestDecodeInvertsEncode(t *testing.T) {
	for _, source := range append(samples(), selections()...) {
		b, g := encode(t, source)
		before, beforeG := slices.Clone(b), cloneGroup(g)
		types := vector.Types(source)
		flat := batchOf(types, vector.Rows(source)...)
		checkDecode(t, describe(source), b, g, types, flat, api.OK)
		for i, v := range flat.Columns {
			checkColumn(t, describe(source)+", column "+strconv.Itoa(i), b, g, i, v, api.OK)
		}
		if !bytes.Equal(b, before) || !sameGroup(g, beforeG) || !slices.Equal(types, vector.Types(source)) {
			t.Errorf("%s: an argument was changed", describe(source))
		}
	}
}
