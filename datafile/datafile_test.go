package datafile_test

import (
	"bytes"
	"encoding/binary"
	"hash/crc32"
	"math"
	"slices"
	"strconv"
	"strings"
	"testing"

	"lamina/api"
	"lamina/datafile"
	"lamina/rowgroup"
	"lamina/sketch"
	"lamina/value"
	"lamina/vector"
)

func null() api.Value          { return api.Value{} }
func number(n int64) api.Value { return api.Value{Kind: api.Int, Int: n} }
func truth(n int64) api.Value  { return api.Value{Kind: api.Bool, Int: n} }
func text(s string) api.Value  { return api.Value{Kind: api.Text, Text: s} }

// config returns a valid Config with this many rows per group.
func config(groupRows int) api.Config {
	return api.Config{GroupRows: groupRows, FileGroups: 1, BatchRows: 1, MemoryRows: 1, BloomBits: 8, CompactTier: 2}
}

// table is what Write is given beside a Config.
type table struct {
	columns []api.Column
	keys    []api.SortKey
	rows    []api.Row
}

// ints returns the table of these numbers in one column, a.
func ints(numbers ...int64) table {
	t := table{columns: []api.Column{{Name: "a", Type: api.Int}}}
	for _, n := range numbers {
		t.rows = append(t.rows, api.Row{number(n)})
	}
	return t
}

// mixed returns a table of n rows with columns of all types. Only the column c has no NULLs.
func mixed(n int) table {
	t := table{
		columns: []api.Column{{Name: "a", Type: api.Int}, {Name: "b_2", Type: api.Text}, {Name: "c", Type: api.Bool, NotNull: true}, {Name: "d", Type: api.Int}, {Name: "zz9", Type: api.Text}},
		keys:    []api.SortKey{{Column: 3, Desc: true}, {Column: 0}},
	}
	for i := range n {
		row := api.Row{number(int64(i*i%17) - 5), text("row " + strconv.Itoa(i%7)), truth(int64(i / 3 % 2)), number(int64(i) << 40), null()}
		for c := range row {
			if c != 2 && (i+2*c)%5 == 0 {
				row[c] = null()
			}
		}
		t.rows = append(t.rows, row)
	}
	return t
}

// wide returns a table with this many columns, each of which has a sort key.
func wide(columns, rows int) table {
	t := table{}
	for c := range columns {
		t.columns = append(t.columns, api.Column{Name: "c" + strconv.Itoa(c), Type: 1 + c%3, NotNull: c%4 == 0})
		t.keys = append(t.keys, api.SortKey{Column: columns - 1 - c, Desc: c%5 == 0})
	}
	for i := range rows {
		row := api.Row{}
		for c := range columns {
			row = append(row, []api.Value{truth(int64(i % 2)), number(int64(c*i - 7)), text(strings.Repeat("x", i%5))}[c%3])
		}
		t.rows = append(t.rows, row)
	}
	return t
}

// extremes returns a table with the least and the greatest values and names.
func extremes() table {
	name := strings.Repeat("x", api.MaxName-1)
	return table{
		columns: []api.Column{{Name: name + "y", Type: api.Int, NotNull: true}, {Name: name + "_", Type: api.Text, NotNull: true}, {Name: name, Type: api.Bool}, {Name: "x", Type: api.Text}},
		keys:    []api.SortKey{{Column: 2}, {Column: 3, Desc: true}, {Column: 0, Desc: true}, {Column: 1}},
		rows: []api.Row{
			{number(math.MinInt64), text(""), truth(1), null()},
			{number(math.MaxInt64), text(strings.Repeat("\xff", api.MaxText)), truth(0), null()},
			{number(0), text("\x00"), null(), null()},
			{number(-1), text("LMNA"), null(), null()},
			{number(1), text("\x00\x00"), truth(1), text("'")},
		},
	}
}

// sample is a table and the number of rows per group for it.
type sample struct {
	table
	groupRows int
}

func samples() []sample {
	all := []sample{
		{ints(), 1}, {ints(7), 1}, {ints(7), 2}, {ints(3, 5, 4), 2}, {ints(math.MaxInt64, math.MinInt64), 1},
		{extremes(), 1}, {extremes(), 2}, {extremes(), 5}, {wide(64, 0), 3}, {wide(64, 5), 3}, {wide(63, 4), 1}, {wide(7, 100), 64},
		{mixed(256), 1}, {mixed(512), 2}, {mixed(700), 300}, {mixed(5000), 4096}, {mixed(4096), 4096}, {mixed(4097), 4096},
	}
	for n := range 12 {
		for _, groupRows := range []int{1, 2, 3, 4, 5, 100} {
			all = append(all, sample{mixed(n), groupRows})
		}
	}
	return all
}

// small are the samples whose files are short.
func small() []sample {
	return []sample{{ints(), 1}, {ints(7), 2}, {ints(3, 5, 4), 2}, {extremesOf(3), 1}, {mixed(0), 1}, {mixed(3), 2}, {mixed(4), 2}}
}

// extremesOf returns the last n rows of extremes.
func extremesOf(n int) table {
	t := extremes()
	t.rows = t.rows[len(t.rows)-n:]
	return t
}

// describe tells what s is in a few words.
func (s sample) describe() string {
	return strconv.Itoa(len(s.columns)) + " columns, " + strconv.Itoa(len(s.keys)) + " keys, " + strconv.Itoa(len(s.rows)) + " rows, " + strconv.Itoa(s.groupRows) + " per group"
}

// write returns the data file of s and its metadata.
func (s sample) write(t *testing.T) ([]byte, api.DataFile) {
	t.Helper()
	b, m, e := datafile.Write(config(s.groupRows), s.columns, s.keys, s.rows)
	if e != api.OK {
		t.Fatalf("%s: Write has error %d", s.describe(), e)
	}
	return b, m
}

func types(columns []api.Column) []int {
	var all []int
	for _, c := range columns {
		all = append(all, c.Type)
	}
	return all
}

func sameFilter(a, b api.BloomFilter) bool {
	return a.Hashes == b.Hashes && a.Bits.N == b.Bits.N && slices.Equal(a.Bits.Words, b.Bits.Words)
}

func sameGroup(a, b api.RowGroup) bool {
	return a.Rows == b.Rows && slices.Equal(a.Offsets, b.Offsets) && slices.Equal(a.Zones, b.Zones) && slices.EqualFunc(a.Blooms, b.Blooms, sameFilter)
}

func sameSketch(a, b api.Sketch) bool {
	return a.Rows == b.Rows && a.Nulls == b.Nulls && slices.Equal(a.MinHashes, b.MinHashes) && a.Complete == b.Complete &&
		slices.Equal(a.CountMin, b.CountMin) && slices.Equal(a.Fences, b.Fences) && slices.Equal(a.Ranks, b.Ranks)
}

func sameMeta(a, b api.DataFile) bool {
	return a.Name == b.Name && a.Rows == b.Rows && a.Bytes == b.Bytes && slices.Equal(a.Zones, b.Zones) && slices.EqualFunc(a.Sketches, b.Sketches, sameSketch) &&
		slices.Equal(a.SortKeys, b.SortKeys) && a.Level == b.Level && a.DeleteVector == b.DeleteVector && a.Deleted == b.Deleted
}

func sameRow(a, b api.Row) bool {
	return slices.Equal(a, b)
}

func sameRows(a, b []api.Row) bool {
	return slices.EqualFunc(a, b, sameRow)
}

// crc returns the CRC-32C of b, as computed by the library of Go.
func crc(b []byte) uint32 {
	return crc32.Checksum(b, crc32.MakeTable(crc32.Castagnoli))
}

// assemble returns the file with these bytes of row groups and of the footer.
func assemble(groups, footer []byte) []byte {
	b := slices.Concat([]byte("LMNA"), groups, footer)
	start := len(b) - len(footer)
	b = binary.LittleEndian.AppendUint32(b, uint32(len(footer)))
	return binary.LittleEndian.AppendUint32(b, crc(b[start:]))
}

// groupForm is a row group in a file.
type groupForm struct {
	bytes  []byte
	offset uint64
	meta   api.RowGroup
}

// form is a data file, part by part.
type form struct {
	columns  []api.Column
	keys     []api.SortKey
	groups   []groupForm
	sketches []api.Sketch
}

// uvarint returns the varint of n, as encoded by the library of Go.
func uvarint(n uint64) []byte {
	return binary.AppendUvarint(nil, n)
}

func flag(set bool) []byte {
	if set {
		return []byte{1}
	}
	return []byte{0}
}

// fields returns the footer of f, field by field.
func (f form) fields() [][]byte {
	fields := [][]byte{uvarint(uint64(len(f.columns)))}
	for _, c := range f.columns {
		fields = append(fields, uvarint(uint64(len(c.Name))), []byte(c.Name), []byte{byte(c.Type)}, flag(c.NotNull))
	}
	fields = append(fields, uvarint(uint64(len(f.keys))))
	for _, k := range f.keys {
		fields = append(fields, uvarint(uint64(k.Column)), flag(k.Desc))
	}
	fields = append(fields, uvarint(uint64(len(f.groups))))
	for _, g := range f.groups {
		fields = append(fields, uvarint(g.offset), rowgroup.EncodeMeta(g.meta))
	}
	for _, s := range f.sketches {
		fields = append(fields, sketch.Encode(s))
	}
	return fields
}

// body returns the bytes of the row groups.
func (f form) body() []byte {
	var b []byte
	for _, g := range f.groups {
		b = append(b, g.bytes...)
	}
	return b
}

// file returns the data file.
func (f form) file() []byte {
	return assemble(f.body(), slices.Concat(f.fields()...))
}

// formOf returns the data file of the table by its definition.
func formOf(c api.Config, t table) form {
	f := form{columns: slices.Clone(t.columns), keys: slices.Clone(t.keys)}
	offset := 4
	for first := 0; first < len(t.rows); first += c.GroupRows {
		batch, e := vector.FromRows(types(t.columns), t.rows[first:min(first+c.GroupRows, len(t.rows))])
		if e != api.OK {
			panic(e)
		}
		b, g, e := rowgroup.Encode(batch, c.BloomBits)
		if e != api.OK {
			panic(e)
		}
		f.groups = append(f.groups, groupForm{b, uint64(offset), g})
		offset += len(b)
	}
	for i := range t.columns {
		f.sketches = append(f.sketches, sketch.Build(t.column(i)))
	}
	return f
}

// form returns the data file of s by its definition.
func (s sample) form() form {
	return formOf(config(s.groupRows), s.table)
}

// column returns the values of column i.
func (t table) column(i int) []api.Value {
	var values []api.Value
	for _, row := range t.rows {
		values = append(values, row[i])
	}
	return values
}

// metaOf returns the metadata of the file b of the table by its definition.
func metaOf(b []byte, t table) api.DataFile {
	m := api.DataFile{Rows: len(t.rows), Bytes: len(b), SortKeys: slices.Clone(t.keys)}
	for i := range t.columns {
		values := t.column(i)
		present := slices.DeleteFunc(slices.Clone(values), func(v api.Value) bool { return v == null() })
		z := api.ZoneMap{Rows: len(values), Nulls: len(values) - len(present)}
		if len(present) > 0 {
			z.Min, z.Max = slices.MinFunc(present, value.Compare), slices.MaxFunc(present, value.Compare)
		}
		m.Zones = append(m.Zones, z)
		m.Sketches = append(m.Sketches, sketch.Build(values))
	}
	return m
}

// checkWrite fails unless Write returns this error, and nothing beside it.
func checkWrite(t *testing.T, name string, c api.Config, x table, want api.Errno) {
	t.Helper()
	b, m, e := datafile.Write(c, x.columns, x.keys, x.rows)
	if e != want {
		t.Errorf("%s: Write has error %d, want %d", name, e, want)
	}
	if e == api.OK && len(b) < 12 || e != api.OK && (len(b) > 0 || !sameMeta(m, api.DataFile{})) {
		t.Errorf("%s: Write = %.40x, %.80v, error %d", name, b, m, e)
	}
}

// P19.1 and the first example
func TestFileWithoutRows(t *testing.T) {
	// The footer is a column, no sort keys, no groups and a sketch of nothing.
	footer := "\x01" + "\x01a\x02\x00" + "\x00" + "\x00" + "\x00\x00\x00\x01" + strings.Repeat("\x00", 257)
	want := "LMNA" + footer + "\x0c\x01\x00\x00" + "\x07\x02\xec\xc1"
	b, m, e := datafile.Write(config(2), ints().columns, nil, nil)
	if e != api.OK || string(b) != want {
		t.Errorf("Write = %x, error %d, want %x", b, e, want)
	}
	if !sameMeta(m, api.DataFile{Bytes: 280, Zones: []api.ZoneMap{{}}, Sketches: []api.Sketch{{Complete: true, CountMin: make([]int, 256)}}}) {
		t.Errorf("metadata %v", m)
	}
	columns, groups, offsets, e := datafile.Open(b)
	if e != api.OK || !slices.Equal(columns, ints().columns) || len(groups) > 0 || len(offsets) > 0 {
		t.Errorf("Open = %v, %v, %v, error %d", columns, groups, offsets, e)
	}
	if rows, e := datafile.Rows(b); e != api.OK || len(rows) > 0 {
		t.Errorf("Rows = %v, error %d", rows, e)
	}
}

// P19.1 and the second example
func TestFileOfThreeRows(t *testing.T) {
	x := table{
		columns: []api.Column{{Name: "a", Type: api.Int}, {Name: "bc", Type: api.Text, NotNull: true}},
		keys:    []api.SortKey{{Column: 1, Desc: true}, {Column: 0}},
		rows:    []api.Row{{number(3), text("x")}, {null(), text("y")}, {number(1), text("")}},
	}
	b, m, e := datafile.Write(config(2), x.columns, x.keys, x.rows)
	if e != api.OK {
		t.Fatal(e)
	}
	head := "\x02" + "\x01a\x02\x00" + "\x02bc\x03\x01" + "\x02" + "\x01\x01" + "\x00\x00" + "\x02" + "\x04" + "\x02\x02" // up to the number of columns in the first group
	footer := b[len(b)-8-int(binary.LittleEndian.Uint32(b[len(b)-8:])) : len(b)-8]
	if !strings.HasPrefix(string(footer), head) {
		t.Errorf("the footer is %.40x, want %x", footer, head)
	}
	zones := []api.ZoneMap{{Rows: 3, Nulls: 1, Min: number(1), Max: number(3)}, {Rows: 3, Min: text(""), Max: text("y")}}
	if m.Rows != 3 || m.Bytes != len(b) || !slices.Equal(m.Zones, zones) || !slices.Equal(m.SortKeys, x.keys) {
		t.Errorf("metadata %v", m)
	}
	_, groups, offsets, e := datafile.Open(b)
	if e != api.OK || len(groups) != 2 || groups[0].Rows != 2 || groups[1].Rows != 1 || offsets[0] != 4 || offsets[1] != 4+groups[0].Offsets[2] {
		t.Errorf("Open = %v, %v, error %d", groups, offsets, e)
	}
}

// P19.1
func TestWriteAgreesWithTheDefinition(t *testing.T) {
	for _, s := range samples() {
		for _, bloomBits := range []int{0, 1, 8, 16} {
			c := config(s.groupRows)
			c.BloomBits = bloomBits
			want := formOf(c, s.table).file()
			b, m, e := datafile.Write(c, s.columns, s.keys, s.rows)
			if e != api.OK || !bytes.Equal(b, want) {
				t.Fatalf("%s, %d bits: Write = %.60x, error %d, want %.60x", s.describe(), bloomBits, b, e, want)
			}
			if wantM := metaOf(want, s.table); !sameMeta(m, wantM) {
				t.Fatalf("%s, %d bits: metadata %.200v, want %.200v", s.describe(), bloomBits, m, wantM)
			}
		}
	}
}

// TestOtherParametersDoNotMatter: only GroupRows and BloomBits are seen in a file.
func TestOtherParametersDoNotMatter(t *testing.T) {
	want, wantM := sample{mixed(9), 2}.write(t)
	x := mixed(9)
	for _, c := range []api.Config{
		{GroupRows: 2, FileGroups: 256, BatchRows: 1024, MemoryRows: 1 << 20, BloomBits: 8, CompactTier: 16},
		{GroupRows: 2, FileGroups: 3, BatchRows: 5, MemoryRows: 7, BloomBits: 8, CompactTier: 9},
	} {
		if b, m, e := datafile.Write(c, x.columns, x.keys, x.rows); e != api.OK || !bytes.Equal(b, want) || !sameMeta(m, wantM) {
			t.Errorf("%v: Write = %.60x, error %d, want %.60x", c, b, e, want)
		}
	}
}

// badConfigs are not valid by one parameter each.
func badConfigs() []api.Config {
	var all []api.Config
	for _, x := range []struct {
		parameter func(c *api.Config) *int
		least     int
		greatest  int
	}{
		{func(c *api.Config) *int { return &c.GroupRows }, 1, 4096},
		{func(c *api.Config) *int { return &c.FileGroups }, 1, 256},
		{func(c *api.Config) *int { return &c.BatchRows }, 1, 1024},
		{func(c *api.Config) *int { return &c.MemoryRows }, 1, 1048576},
		{func(c *api.Config) *int { return &c.BloomBits }, 0, 16},
		{func(c *api.Config) *int { return &c.CompactTier }, 2, 16},
	} {
		for _, n := range []int{x.least - 1, x.greatest + 1, -x.greatest, math.MinInt, math.MaxInt, 1<<32 + x.least} {
			c := config(5)
			*x.parameter(&c) = n
			all = append(all, c)
		}
	}
	return append(all, api.Config{})
}

func TestWriteWithConfigsThatAreNotValid(t *testing.T) {
	for _, c := range badConfigs() {
		for _, x := range []table{ints(), ints(1, 2), mixed(3), wide(64, 2)} {
			checkWrite(t, "bad Config", c, x, api.ErrArg)
		}
		for _, row := range []api.Row{nil, {null(), null()}, {text("x")}} { // ErrArg comes before the errors of rows
			x := ints(1)
			x.rows = append(x.rows, row)
			x.columns[0].NotNull = true
			checkWrite(t, "bad Config and row", c, x, api.ErrArg)
		}
		checkWrite(t, "bad Config and too many rows", c, ints(make([]int64, 2000)...), api.ErrArg)
	}
	for _, c := range []api.Config{
		{GroupRows: 1, FileGroups: 1, BatchRows: 1, MemoryRows: 1, BloomBits: 0, CompactTier: 2},
		{GroupRows: 4096, FileGroups: 256, BatchRows: 1024, MemoryRows: 1 << 20, BloomBits: 16, CompactTier: 16},
	} {
		checkWrite(t, "good Config", c, mixed(3), api.OK)
	}
}

func TestWriteOfRowsWithErrors(t *testing.T) {
	columns := []api.Column{{Name: "a", Type: api.Int, NotNull: true}, {Name: "b", Type: api.Text}, {Name: "c", Type: api.Bool, NotNull: true}}
	good := api.Row{number(1), text("x"), truth(1)}
	short, long, empty := good[:2], append(slices.Clone(good), null()), api.Row{}
	noA, noC := api.Row{null(), text("x"), truth(1)}, api.Row{number(1), text("x"), null()}
	boolA, textA, intB, boolB, intC := api.Row{truth(1), text("x"), truth(1)}, api.Row{text("1"), text("x"), truth(1)}, api.Row{number(1), number(1), truth(1)}, api.Row{number(1), truth(0), truth(1)}, api.Row{number(1), text("x"), number(1)}
	for _, x := range []struct {
		name string
		rows []api.Row
		want api.Errno
	}{
		{"no rows", nil, api.OK},
		{"good", []api.Row{good}, api.OK},
		{"NULL where it may be", []api.Row{{number(1), null(), truth(0)}}, api.OK},
		{"a value missing", []api.Row{short}, api.ErrCount},
		{"a value more", []api.Row{long}, api.ErrCount},
		{"no values", []api.Row{empty}, api.ErrCount},
		{"no row", []api.Row{nil}, api.ErrCount},
		{"NULL in the first column", []api.Row{noA}, api.ErrNull},
		{"NULL in the last column", []api.Row{noC}, api.ErrNull},
		{"Bool for Int", []api.Row{boolA}, api.ErrType},
		{"Text for Int", []api.Row{textA}, api.ErrType},
		{"Int for Text", []api.Row{intB}, api.ErrType},
		{"Bool for Text", []api.Row{boolB}, api.ErrType},
		{"Int for Bool", []api.Row{intC}, api.ErrType},
		// value by value
		{"NULL, then a wrong kind", []api.Row{{null(), number(1), truth(1)}}, api.ErrNull},
		{"a wrong kind, then NULL", []api.Row{{truth(1), text("x"), null()}}, api.ErrType},
		{"a wrong kind between NULLs", []api.Row{{null(), number(1), null()}}, api.ErrNull},
		// the number of values comes first
		{"a value more, NULL", []api.Row{{null(), text("x"), truth(1), truth(1)}}, api.ErrCount},
		{"a value missing, a wrong kind", []api.Row{{truth(1), text("x")}}, api.ErrCount},
		// row by row
		{"good, then short", []api.Row{good, short}, api.ErrCount},
		{"good, then NULL", []api.Row{good, good, noC}, api.ErrNull},
		{"good, then a wrong kind, then good", []api.Row{good, intB, good}, api.ErrType},
		{"NULL, then short", []api.Row{noC, short}, api.ErrNull},
		{"short, then NULL", []api.Row{short, noC}, api.ErrCount},
		{"a wrong kind, then NULL in an earlier column", []api.Row{intC, noA}, api.ErrType},
		{"NULL, then a wrong kind in an earlier column", []api.Row{noC, textA}, api.ErrNull},
		{"long, then a wrong kind", []api.Row{good, long, boolB}, api.ErrCount},
		// Rows come before their number.
		{"too many rows, the last short", append(slices.Repeat([]api.Row{good}, 256), short), api.ErrCount},
		{"too many rows, the last with NULL", append(slices.Repeat([]api.Row{good}, 256), noA), api.ErrNull},
		{"too many rows, a late one with a wrong kind", append(slices.Repeat([]api.Row{good}, 500), intB, good), api.ErrType},
		{"too many rows", slices.Repeat([]api.Row{good}, 257), api.ErrCount},
		{"as many rows as can be", slices.Repeat([]api.Row{good}, 256), api.OK},
	} {
		checkWrite(t, x.name, config(1), table{columns, nil, x.rows}, x.want)
		checkWrite(t, x.name+", sort keys", config(1), table{columns, []api.SortKey{{Column: 2}, {Column: 0, Desc: true}}, x.rows}, x.want)
	}
}

func TestWriteOfTooManyRows(t *testing.T) {
	for groupRows, most := range map[int]int{1: 256, 2: 512, 3: 768, 16: 4096, 100: 25600} {
		for _, fileGroups := range []int{1, 256} {
			c := config(groupRows)
			c.FileGroups = fileGroups
			checkWrite(t, "as many rows as can be", c, ints(make([]int64, most)...), api.OK)
			checkWrite(t, "one less", c, ints(make([]int64, most-1)...), api.OK)
			checkWrite(t, "one more", c, ints(make([]int64, most+1)...), api.ErrCount)
			checkWrite(t, "many more", c, ints(make([]int64, 2*most)...), api.ErrCount)
		}
	}
	row := api.Row{truth(1)}
	x := table{columns: []api.Column{{Name: "a", Type: api.Bool}}, rows: slices.Repeat([]api.Row{row}, 1<<20+1)}
	checkWrite(t, "one row more than any file has", config(4096), x, api.ErrCount)
	x.rows = x.rows[:1<<20]
	b, m, e := datafile.Write(config(4096), x.columns, x.keys, x.rows)
	if e != api.OK || m.Rows != 1<<20 || !sameMeta(m, metaOf(b, x)) {
		t.Fatalf("Write of 2^20 rows: error %d, %.80v", e, m)
	}
	_, groups, _, e := datafile.Open(b)
	if e != api.OK || len(groups) != 256 || groups[255].Rows != 4096 {
		t.Errorf("Open of 2^20 rows: error %d, %d groups", e, len(groups))
	}
	if rows, e := datafile.Rows(b); e != api.OK || len(rows) != 1<<20 || !sameRow(rows[1<<20-1], row) {
		t.Errorf("Rows of 2^20 rows: error %d, %d rows", e, len(rows))
	}
}

// TestArgumentsThatAreNotValid: nothing is promised for them but an end without a panic, and that what is written can be opened.
func TestArgumentsThatAreNotValid(t *testing.T) {
	column := func(name string, typ int) api.Column { return api.Column{Name: name, Type: typ} }
	schemas := [][]api.Column{
		nil, wide(65, 0).columns, wide(300, 0).columns, {column("a", api.Null)}, {column("a", 4)}, {column("a", -1)}, {column("a", 256+api.Int)}, {column("a", math.MinInt)},
		{column("", api.Int)}, {column("A", api.Int)}, {column("1", api.Int)}, {column("_", api.Int)}, {column("a b", api.Int)}, {column("\xff", api.Int)},
		{column(strings.Repeat("a", 33), api.Int)}, {column("a", api.Int), column("a", api.Text)}, {column("b", api.Int), column("a", api.Int), column("b", api.Bool)},
	}
	odd := []api.Value{{Kind: 9}, {Kind: -1}, {Kind: math.MaxInt, Int: 3}, {Int: 7}, {Text: "x"}, truth(7), truth(-1), text(strings.Repeat("x", 5000)), {Kind: api.Int, Int: 1, Text: "x"}, {Kind: api.Text, Int: 3, Text: "x"}}
	for _, columns := range schemas {
		rows := []api.Row{make(api.Row, len(columns)), make(api.Row, len(columns))}
		for _, v := range append(odd, number(1)) {
			for i := range rows[0] {
				rows[0][i] = v
			}
			for _, list := range [][]api.Row{nil, rows[1:], rows} {
				openWhatIsWritten(t, config(1), table{columns, nil, list})
				openWhatIsWritten(t, config(4096), table{columns, []api.SortKey{{}}, list})
			}
		}
	}
	for _, keys := range [][]api.SortKey{{{Column: -1}}, {{Column: 5}}, {{Column: math.MaxInt}}, {{Column: math.MinInt}}, {{Column: 1}, {Column: 1}}, {{Column: 0, Desc: true}, {Column: 1}, {Column: 0}}, make([]api.SortKey, 65)} {
		x := mixed(3)
		x.keys = keys
		openWhatIsWritten(t, config(2), x)
	}
	for _, v := range odd {
		for _, typ := range []int{api.Bool, api.Int, api.Text} {
			datafile.Write(config(2), []api.Column{column("a", typ)}, nil, []api.Row{{v}, {null()}, {v}})
		}
	}
}

func openWhatIsWritten(t *testing.T, c api.Config, x table) {
	t.Helper()
	b, _, e := datafile.Write(c, x.columns, x.keys, x.rows)
	if e != api.OK {
		return
	}
	if _, _, _, e := datafile.Open(b); e != api.OK {
		t.Errorf("%.80v, %v: the file is written, but Open has error %d", x.columns, x.keys, e)
	}
}
