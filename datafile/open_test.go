package datafile_test

import (
	"bytes"
	"encoding/binary"
	"math"
	"slices"
	"strconv"
	"strings"
	"testing"

	"lamina/api"
	"lamina/bloom"
	"lamina/column"
	"lamina/datafile"
	"lamina/literal"
	"lamina/rowgroup"
	"lamina/sketch"
	"lamina/value"
	"lamina/varint"
	"lamina/vector"
)

// model reads data files step by step, as the promises list the steps. It panics with the error.
type model struct {
	b    []byte
	rest []byte // what is left of the footer
	form form
}

func must(condition bool, e api.Errno) {
	if !condition {
		panic(e)
	}
}

// modelOf returns what is in b, or the error of Open.
func modelOf(b []byte) (m *model, e api.Errno) {
	defer func() {
		if raised := recover(); raised != nil {
			m, e = nil, raised.(api.Errno)
		}
	}()
	m = &model{b: b}
	m.outside()
	m.inside()
	m.whole()
	return m, api.OK
}

func (m *model) outside() {
	n := len(m.b)
	must(n >= 12, api.ErrShort)
	must(bytes.HasPrefix(m.b, []byte("LMNA")), api.ErrFormat)
	length := int(binary.LittleEndian.Uint32(m.b[n-8:]))
	must(4+length+8 <= n, api.ErrShort)
	must(crc(m.b[n-8-length:n-4]) == binary.LittleEndian.Uint32(m.b[n-4:]), api.ErrChecksum)
	m.rest = slices.Clone(m.b[n-8-length : n-8])
}

func (m *model) varint() uint64 {
	n, next, e := varint.Decode(m.rest, 0)
	must(e == api.OK, e)
	m.rest = m.rest[next:]
	return n
}

func (m *model) byte() byte {
	must(len(m.rest) > 0, api.ErrShort)
	c := m.rest[0]
	m.rest = m.rest[1:]
	return c
}

func (m *model) bit() bool {
	c := m.byte()
	must(c == 0 || c == 1, api.ErrFormat)
	return c == 1
}

func (m *model) inside() {
	columns := m.varint()
	must(columns <= 64, api.ErrCount)
	for range columns {
		size := m.varint()
		must(size <= 32, api.ErrLong)
		must(uint64(len(m.rest)) >= size, api.ErrShort)
		name := string(m.rest[:size])
		m.rest = m.rest[size:]
		typ := m.byte()
		must(typ == api.Bool || typ == api.Int || typ == api.Text, api.ErrFormat)
		m.form.columns = append(m.form.columns, api.Column{Name: name, Type: int(typ), NotNull: m.bit()})
	}
	keys := m.varint()
	must(keys <= 64, api.ErrCount)
	for range keys {
		c := m.varint()
		must(c < columns, api.ErrRange)
		m.form.keys = append(m.form.keys, api.SortKey{Column: int(c), Desc: m.bit()})
	}
	groups := m.varint()
	must(groups <= 256, api.ErrCount)
	for range groups {
		offset := m.varint()
		g, next, e := rowgroup.DecodeMeta(m.rest, 0)
		must(e == api.OK, e)
		m.rest = m.rest[next:]
		m.form.groups = append(m.form.groups, groupForm{meta: g, offset: offset})
	}
	for range columns {
		s, next, e := sketch.Decode(m.rest, 0)
		must(e == api.OK, e)
		m.rest = m.rest[next:]
		m.form.sketches = append(m.form.sketches, s)
	}
	must(len(m.rest) == 0, api.ErrLong)
}

// whole checks what no part tells on its own. It also takes the bytes of the groups.
func (m *model) whole() {
	f := &m.form
	n := len(f.columns)
	must(n >= 1, api.ErrFormat)
	names, sorted := map[string]bool{}, map[int]bool{}
	for _, c := range f.columns {
		must(literal.IsIdent(c.Name) && !names[c.Name], api.ErrFormat)
		names[c.Name] = true
	}
	for _, k := range f.keys {
		must(!sorted[k.Column], api.ErrFormat)
		sorted[k.Column] = true
	}
	footer := uint64(len(m.b)) - 8 - uint64(binary.LittleEndian.Uint32(m.b[len(m.b)-8:]))
	place, rows := uint64(4), 0
	for i := range f.groups {
		g := &f.groups[i]
		must(len(g.meta.Offsets) == n+1, api.ErrFormat)
		for c, z := range g.meta.Zones {
			must(z.Min.Kind == api.Null || z.Min.Kind == f.columns[c].Type, api.ErrFormat)
		}
		must(g.offset == place, api.ErrFormat)
		end := place + uint64(g.meta.Offsets[n])
		must(end <= footer, api.ErrFormat)
		g.bytes = m.b[place:end]
		place = end
		rows += g.meta.Rows
	}
	must(place == footer, api.ErrFormat)
	for _, s := range f.sketches {
		must(s.Rows == rows, api.ErrFormat)
	}
}

// rows returns the result of Rows.
func (m *model) rows() ([]api.Row, api.Errno) {
	var rows []api.Row
	for _, g := range m.form.groups {
		batch, e := rowgroup.Decode(g.bytes, g.meta, types(m.form.columns))
		if e != api.OK {
			return nil, e
		}
		rows = append(rows, vector.Rows(batch)...)
	}
	return rows, api.OK
}

// meta returns the result of Meta.
func (m *model) meta() api.DataFile {
	d := api.DataFile{Bytes: len(m.b), Zones: make([]api.ZoneMap, len(m.form.columns)), Sketches: m.form.sketches, SortKeys: m.form.keys}
	for _, g := range m.form.groups {
		d.Rows += g.meta.Rows
		for c, z := range g.meta.Zones {
			all := &d.Zones[c]
			if all.Rows == all.Nulls || z.Rows > z.Nulls && value.Compare(z.Min, all.Min) < 0 {
				all.Min = z.Min
			}
			if value.Compare(z.Max, all.Max) > 0 {
				all.Max = z.Max
			}
			all.Rows, all.Nulls = all.Rows+z.Rows, all.Nulls+z.Nulls
		}
	}
	return d
}

// metas returns the metadata of the groups of f, and their offsets.
func (f form) metas() (groups []api.RowGroup, offsets []int) {
	for _, g := range f.groups {
		groups, offsets = append(groups, g.meta), append(offsets, int(g.offset))
	}
	return groups, offsets
}

// checkError fails unless Open, Rows and Meta return this error, and nothing beside it.
func checkError(t *testing.T, name string, b []byte, want api.Errno) {
	t.Helper()
	columns, groups, offsets, e := datafile.Open(b)
	if e != want || len(columns) > 0 || len(groups) > 0 || len(offsets) > 0 {
		t.Errorf("%s: Open = %v, %.80v, %v, error %d, want error %d", name, columns, groups, offsets, e, want)
	}
	if rows, e := datafile.Rows(b); e != want || len(rows) > 0 {
		t.Errorf("%s: Rows = %.80v, error %d, want error %d", name, rows, e, want)
	}
	if m, e := datafile.Meta(b); e != want || !sameMeta(m, api.DataFile{}) {
		t.Errorf("%s: Meta = %.80v, error %d, want error %d", name, m, e, want)
	}
}

// checkAgainstModel compares Open, Rows, Meta and Group with the model and returns the errors of Open and Rows.
func checkAgainstModel(t *testing.T, name string, b []byte) (ofOpen, ofRows api.Errno) {
	t.Helper()
	m, want := modelOf(b)
	if want != api.OK {
		checkError(t, name, b, want)
		return want, want
	}
	columns, groups, offsets, e := datafile.Open(b)
	wantGroups, wantOffsets := m.form.metas()
	if e != api.OK || !slices.Equal(columns, m.form.columns) || !slices.EqualFunc(groups, wantGroups, sameGroup) || !slices.Equal(offsets, wantOffsets) {
		t.Errorf("%s: Open = %v, %.80v, %v, error %d, want %v, %.80v, %v", name, columns, groups, offsets, e, m.form.columns, wantGroups, wantOffsets)
	}
	wantRows, want := m.rows()
	if rows, e := datafile.Rows(b); e != want || !sameRows(rows, wantRows) {
		t.Errorf("%s: Rows = %.80v, error %d, want %.80v, error %d", name, rows, e, wantRows, want)
	}
	if d, e := datafile.Meta(b); e != api.OK || !sameMeta(d, m.meta()) {
		t.Errorf("%s: Meta = %.80v, error %d, want %.80v", name, d, e, m.meta())
	}
	for i, g := range m.form.groups {
		if got := datafile.Group(b, groups, offsets, i); !bytes.Equal(got, g.bytes) {
			t.Errorf("%s: Group %d = %.40x, want %.40x", name, i, got, g.bytes)
		}
	}
	return api.OK, want
}

// P19.2 and P19.4

func TestOpenOfWhatIsWritten(t *testing.T) {
	for _, s := range samples() {
		b, m := s.write(t)
		if e, _ := checkAgainstModel(t, s.describe(), b); e != api.OK {
			t.Errorf("%s: error %d", s.describe(), e)
		}
		wantGroups, wantOffsets := s.form().metas()
		columns, groups, offsets, e := datafile.Open(b)
		if e != api.OK || !slices.Equal(columns, s.columns) || !slices.EqualFunc(groups, wantGroups, sameGroup) || !slices.Equal(offsets, wantOffsets) {
			t.Errorf("%s: Open = %v, %.80v, %v, error %d", s.describe(), columns, groups, offsets, e)
		}
		if rows, e := datafile.Rows(b); e != api.OK || !sameRows(rows, s.rows) {
			t.Errorf("%s: Rows = %.80v, error %d", s.describe(), rows, e)
		}
		if got, e := datafile.Meta(b); e != api.OK || !sameMeta(got, m) {
			t.Errorf("%s: Meta = %.80v, error %d, want %.80v", s.describe(), got, e, m)
		}
	}
}

// P19.2: what is outside of the footer

func TestErrorsOutsideTheFooter(t *testing.T) {
	b, _ := sample{mixed(3), 2}.write(t)
	footer := binary.LittleEndian.Uint32(b[len(b)-8:])
	with := func(change func(b []byte)) []byte {
		changed := slices.Clone(b)
		change(changed)
		return changed
	}
	length := func(n uint32) []byte {
		return with(func(b []byte) { binary.LittleEndian.PutUint32(b[len(b)-8:], n) })
	}
	longest := uint32(len(b) - 12)
	for _, x := range []struct {
		name string
		b    []byte
		want api.Errno
	}{
		{"nothing", nil, api.ErrShort},
		{"the magic alone", []byte("LMNA"), api.ErrShort},
		{"11 bytes", []byte("LMNA1234567"), api.ErrShort},
		{"11 bytes of something else", []byte("lmna1234567"), api.ErrShort},
		{"12 bytes of something else", []byte("lmna\x00\x00\x00\x00\x00\x00\x00\x00"), api.ErrFormat},
		{"another magic before a length that does not fit", []byte("LMNB\xff\xff\xff\xff\x00\x00\x00\x00"), api.ErrFormat},
		{"12 zeros", make([]byte, 12), api.ErrFormat},
		{"an empty footer, another checksum", []byte("LMNA\x00\x00\x00\x00\x00\x00\x00\x00"), api.ErrChecksum},
		{"an empty footer", assemble(nil, nil), api.ErrShort}, // of varint.Decode
		{"an empty footer after bytes", assemble([]byte("12345"), nil), api.ErrShort},
		{"a footer of 1 byte of 12", []byte("LMNA\x01\x00\x00\x00\x00\x00\x00\x00"), api.ErrShort},
		{"a footer of 4 bytes of 12", []byte("LMNA\x04\x00\x00\x00\x00\x00\x00\x00"), api.ErrShort},
		{"the longest footer of 12 bytes", []byte("LMNA\xff\xff\xff\xff\x00\x00\x00\x00"), api.ErrShort},
		{"L missing", b[1:], api.ErrFormat},
		{"a byte in front", slices.Concat([]byte("L"), b), api.ErrFormat},
		{"small letters", with(func(b []byte) { copy(b, "lmna") }), api.ErrFormat},
		{"another last letter", with(func(b []byte) { b[3] = 'B' }), api.ErrFormat},
		{"another magic and another checksum", with(func(b []byte) { b[0], b[len(b)-1] = 'M', b[len(b)-1]^1 }), api.ErrFormat},
		{"another checksum", with(func(b []byte) { b[len(b)-1] ^= 128 }), api.ErrChecksum},
		{"another footer", with(func(b []byte) { b[len(b)-9] ^= 1 }), api.ErrChecksum},
		{"a longer footer", length(footer + 1), api.ErrChecksum},
		{"a shorter footer", length(footer - 1), api.ErrChecksum},
		{"no footer", length(0), api.ErrChecksum},
		{"the footer up to the magic", length(longest), api.ErrChecksum},
		{"the footer with the last byte of the magic", length(longest + 1), api.ErrShort},
		{"the footer with the magic", length(longest + 4), api.ErrShort},
		{"the footer longer than the file", length(longest + 5), api.ErrShort},
		{"the longest footer", length(math.MaxUint32), api.ErrShort},
		{"2^31 bytes", length(1 << 31), api.ErrShort},
		{"the file twice", slices.Concat(b, b), api.ErrFormat}, // the second footer does not start where its groups end
	} {
		if got, _ := checkAgainstModel(t, x.name, x.b); got != x.want {
			t.Errorf("%s: error %d, want %d", x.name, got, x.want)
		}
	}
	for c := range 256 { // the length is then another number, which need not fit
		checkAgainstModel(t, "a byte at the end", append(slices.Clone(b), byte(c)))
	}
}

// TestShortFiles tries what has the magic and few bytes behind it.
func TestShortFiles(t *testing.T) {
	for size := range 40 {
		for _, fill := range []byte{0, 1, 2, 128, 255} {
			tail := bytes.Repeat([]byte{fill}, size)
			checkAgainstModel(t, "short", tail)
			checkAgainstModel(t, "short", append([]byte("LMNA"), tail...))
			checkAgainstModel(t, "short", assemble(nil, tail))
			checkAgainstModel(t, "short", assemble(tail, nil))
			checkAgainstModel(t, "short", assemble(tail, tail))
		}
	}
}

// emptySketch is the encoding of a sketch of nothing.
func emptySketch() string {
	return string(sketch.Encode(sketch.Build(nil)))
}

// P19.2: the first error in the footer decides.
func TestFirstErrorInTheFooter(t *testing.T) {
	big := strings.Repeat("\xff", 9) + "\x01" // 2^64 - 1
	a, b := "\x01a\x02\x00", "\x01b\x03\x01"
	none := emptySketch()
	long := strings.Repeat("n", 32)
	group := "\x04" + "\x01\x01\x0a" + "\x01\x01" + "\x00\x00" // of one NULL in 10 bytes at offset 4
	nulls := string(sketch.Encode(sketch.Build([]api.Value{null()})))
	many := func(n int, part string) string { return string(uvarint(uint64(n))) + strings.Repeat(part, n) }
	for _, x := range []struct {
		name, footer string
		want         api.Errno
	}{
		{"good", "\x01" + a + "\x00" + "\x00" + none, api.OK},
		{"two columns", "\x02" + a + b + "\x00" + "\x00" + none + none, api.OK},
		{"two sort keys", "\x02" + a + b + "\x02\x01\x00\x00\x01" + "\x00" + none + none, api.OK},
		{"a name of 32 bytes", "\x01" + "\x20" + long + "\x01\x01" + "\x00" + "\x00" + none, api.OK},
		// the number of columns
		{"number of columns cut", "\x80", api.ErrShort},
		{"number of columns too long", "\x80\x00", api.ErrFormat},
		{"65 columns", "\x41", api.ErrCount},
		{"65 columns, all of them there", many(65, a) + "\x00\x00" + strings.Repeat(none, 65), api.ErrCount},
		{"64 columns", "\x40", api.ErrShort},
		{"2^64 - 1 columns", big, api.ErrCount},
		{"2^32 + 1 columns", "\x81\x80\x80\x80\x10" + a + "\x00\x00" + none, api.ErrCount},
		{"no columns", "\x00" + "\x00" + "\x00", api.ErrFormat},
		{"no columns and nothing else", "\x00", api.ErrShort},
		{"no columns and a byte more", "\x00\x00\x00\x00", api.ErrLong},
		{"no columns and a sort key", "\x00\x01\x00\x00\x00", api.ErrRange},
		{"no columns and a group", "\x00\x00\x01\x04\x01\x00", api.ErrRange}, // of rowgroup.DecodeMeta
		// names
		{"no name", "\x01", api.ErrShort},
		{"length of the name cut", "\x01\x80", api.ErrShort},
		{"length of the name too long", "\x01\x81\x00a\x02\x00", api.ErrFormat},
		{"a name of 33 bytes", "\x01" + "\x21" + long + "n\x02\x00" + "\x00\x00" + none, api.ErrLong},
		{"a name of 33 bytes, missing", "\x01\x21", api.ErrLong},
		{"a name of 2^64 - 1 bytes", "\x01" + big, api.ErrLong},
		{"a name of 2^32 + 1 bytes", "\x01\x81\x80\x80\x80\x10a\x02\x00\x00\x00" + none, api.ErrLong},
		{"a name of 32 bytes, cut", "\x01\x20" + long[1:], api.ErrShort},
		{"a name missing", "\x01\x01", api.ErrShort},
		{"an empty name", "\x01\x00\x02\x00" + "\x00" + "\x00" + none, api.ErrFormat},
		{"an empty name and a wrong type", "\x01\x00\x04\x00", api.ErrFormat},
		{"an empty name and nothing else", "\x01\x00", api.ErrShort},
		{"a second name missing", "\x02" + a, api.ErrShort},
		{"a second name too long", "\x02" + a + "\x21", api.ErrLong},
		// types and NotNull
		{"type missing", "\x01\x01a", api.ErrShort},
		{"type Null", "\x01\x01a\x00\x00\x00\x00" + none, api.ErrFormat},
		{"type 4", "\x01\x01a\x04\x00\x00\x00" + none, api.ErrFormat},
		{"type 255", "\x01\x01a\xff\x00\x00\x00" + none, api.ErrFormat},
		{"type 4 and nothing else", "\x01\x01a\x04", api.ErrFormat},
		{"type 0 and nothing else", "\x01\x01a\x00", api.ErrFormat},
		{"type 0 and NotNull 2", "\x01\x01a\x00\x02", api.ErrFormat},
		{"NotNull missing", "\x01\x01a\x02", api.ErrShort},
		{"NotNull 2", "\x01\x01a\x02\x02\x00\x00" + none, api.ErrFormat},
		{"NotNull 255 and nothing else", "\x01\x01a\x02\xff", api.ErrFormat},
		{"NotNull 2 and a name too long", "\x02\x01a\x02\x02\x21", api.ErrFormat},
		{"a second NotNull 2", "\x02" + a + "\x01b\x03\x02\x00\x00" + none + none, api.ErrFormat},
		// sort keys
		{"no number of sort keys", "\x01" + a, api.ErrShort},
		{"number of sort keys too long", "\x01" + a + "\x80\x00", api.ErrFormat},
		{"65 sort keys", "\x01" + a + "\x41", api.ErrCount},
		{"65 sort keys, all of them there", "\x01" + a + many(65, "\x00\x00") + "\x00" + none, api.ErrCount},
		{"64 sort keys of one column", "\x01" + a + many(64, "\x00\x00") + "\x00" + none, api.ErrFormat},
		{"64 sort keys, 63 of them there", "\x01" + a + many(64, "\x00\x00")[:127], api.ErrShort},
		{"2^64 - 1 sort keys", "\x01" + a + big, api.ErrCount},
		{"2^32 sort keys", "\x01" + a + "\x80\x80\x80\x80\x10" + "\x00" + none, api.ErrCount},
		{"sort key missing", "\x01" + a + "\x01", api.ErrShort},
		{"sort key too long", "\x01" + a + "\x01\x80\x00\x00" + "\x00" + none, api.ErrFormat},
		{"sort key 1 of one column", "\x01" + a + "\x01\x01\x00" + "\x00" + none, api.ErrRange},
		{"sort key 2 of two columns", "\x02" + a + b + "\x01\x02\x01" + "\x00" + none + none, api.ErrRange},
		{"sort key 2^64 - 1", "\x01" + a + "\x01" + big + "\x00\x00" + none, api.ErrRange},
		{"sort key 2^32", "\x01" + a + "\x01\x80\x80\x80\x80\x10\x00" + "\x00" + none, api.ErrRange},
		{"sort key 1, Desc 2", "\x01" + a + "\x01\x01\x02" + "\x00" + none, api.ErrRange},
		{"sort key 1, Desc missing", "\x01" + a + "\x01\x01", api.ErrRange},
		{"Desc missing", "\x01" + a + "\x01\x00", api.ErrShort},
		{"Desc 2", "\x01" + a + "\x01\x00\x02" + "\x00" + none, api.ErrFormat},
		{"Desc 2 and nothing else", "\x01" + a + "\x01\x00\x02", api.ErrFormat},
		{"Desc 2 and a column that does not exist", "\x01" + a + "\x02\x00\x02\x07\x00" + "\x00" + none, api.ErrFormat},
		{"a second column that does not exist", "\x01" + a + "\x02\x00\x01\x01\x00" + "\x00" + none, api.ErrRange},
		{"a column twice", "\x02" + a + b + "\x02\x01\x00\x01\x01" + "\x00" + none + none, api.ErrFormat},
		{"a column twice and a byte more", "\x02" + a + b + "\x02\x01\x00\x01\x01" + "\x00" + none + none + "\x00", api.ErrLong},
		// row groups
		{"no number of groups", "\x01" + a + "\x00", api.ErrShort},
		{"number of groups too long", "\x01" + a + "\x00\x80\x00", api.ErrFormat},
		{"257 groups", "\x01" + a + "\x00\x81\x02", api.ErrCount},
		{"257 groups, all of them there", "\x01" + a + "\x00" + many(257, group) + nulls, api.ErrCount},
		{"256 groups", "\x01" + a + "\x00\x80\x02", api.ErrShort},
		{"2^64 - 1 groups", "\x01" + a + "\x00" + big, api.ErrCount},
		{"2^32 groups", "\x01" + a + "\x00\x80\x80\x80\x80\x10" + none, api.ErrCount},
		{"group missing", "\x01" + a + "\x00\x01", api.ErrShort},
		{"offset cut", "\x01" + a + "\x00\x01\x84", api.ErrShort},
		{"offset too long", "\x01" + a + "\x00\x01\x84\x00" + group[1:] + nulls, api.ErrFormat},
		{"metadata missing", "\x01" + a + "\x00\x01\x04", api.ErrShort},
		{"metadata of no rows", "\x01" + a + "\x00\x01\x04\x00", api.ErrRange},
		{"metadata of 4097 rows", "\x01" + a + "\x00\x01\x04\x81\x20", api.ErrRange},
		{"metadata of no columns", "\x01" + a + "\x00\x01\x04\x01\x00", api.ErrRange},
		{"metadata of another number of NULLs", "\x01" + a + "\x00\x01" + "\x04\x01\x01\x0a\x01\x02\x00\x00" + nulls, api.ErrFormat},
		{"metadata with 12 hashes", "\x01" + a + "\x00\x01" + "\x04\x01\x01\x0a\x01\x01\x0c\x00" + nulls, api.ErrFormat},
		{"second metadata of no rows", "\x01" + a + "\x00\x02" + group + "\x0e\x00", api.ErrRange},
		{"a second group missing", "\x01" + a + "\x00\x02" + group, api.ErrShort},
		{"groups without bytes", "\x01" + a + "\x00\x01" + group + nulls, api.ErrFormat},
		// sketches
		{"sketch missing", "\x01" + a + "\x00\x00", api.ErrShort},
		{"sketch cut", "\x01" + a + "\x00\x00" + none[:len(none)-1], api.ErrShort},
		{"sketch with 33 hashes", "\x01" + a + "\x00\x00" + "\x21\x00\x21" + none, api.ErrCount},
		{"sketch of 2^31 rows", "\x01" + a + "\x00\x00" + "\x80\x80\x80\x80\x08" + none, api.ErrRange},
		{"sketch that is not valid", "\x01" + a + "\x00\x00" + "\x01" + none[1:], api.ErrFormat},
		{"second sketch missing", "\x02" + a + b + "\x00\x00" + none, api.ErrShort},
		{"second sketch with 33 hashes", "\x02" + a + b + "\x00\x00" + none + "\x21\x00\x21", api.ErrCount},
		{"a sketch too many", "\x01" + a + "\x00\x00" + none + none, api.ErrLong},
		{"a byte more", "\x01" + a + "\x00\x00" + none + "\x00", api.ErrLong},
		// What is wrong with the whole comes last.
		{"names that are equal", "\x02" + a + a + "\x00\x00" + none + none, api.ErrFormat},
		{"names that are equal, a sketch missing", "\x02" + a + a + "\x00\x00" + none, api.ErrShort},
		{"a name that is no identifier, a byte more", "\x01\x01A\x02\x00" + "\x00\x00" + none + "\x00", api.ErrLong},
		{"a sketch of a row", "\x01" + a + "\x00\x00" + nulls, api.ErrFormat},
		{"a sketch of a row, a byte more", "\x01" + a + "\x00\x00" + nulls + "\x00", api.ErrLong},
	} {
		file := assemble(nil, []byte(x.footer))
		if got, _ := checkAgainstModel(t, x.name, file); got != x.want {
			t.Errorf("%s: error %d, want %d", x.name, got, x.want)
		}
	}
}

func TestNames(t *testing.T) {
	names := []string{"", "a", "z", "a0", "a9", "a_", "_a", "0a", "9", "A", "aA", "a-", "a b", " a", "a ", "a\x00", "a`", "a{", "a/", "a:", "a^", "`", "{", "é", "aé", "\xff", "a\xff", "a\xc3", "select", strings.Repeat("a", 31), strings.Repeat("9", 32), strings.Repeat("z", 32)}
	for c := range 256 {
		names = append(names, string([]byte{byte(c)}), string([]byte{'a', byte(c)}), string([]byte{'a', byte(c), 'b'}))
	}
	for _, name := range names {
		f := sample{ints(1, 2), 1}.form()
		f.columns[0].Name = name
		want := api.ErrFormat
		if literal.IsIdent(name) {
			want = api.OK
		}
		if got, _ := checkAgainstModel(t, "name "+name, f.file()); got != want {
			t.Errorf("a column with the name %q: error %d, want %d", name, got, want)
		}
	}
	for i := range 64 {
		f := sample{wide(64, 1), 1}.form()
		f.columns[i].Name = "c20"
		want := api.ErrFormat
		if i == 20 {
			want = api.OK
		}
		if got, _ := checkAgainstModel(t, "a name twice", f.file()); got != want {
			t.Errorf("column %d with the name of column 20: error %d, want %d", i, got, want)
		}
	}
}

func TestSortKeys(t *testing.T) {
	for i := range 64 {
		for _, desc := range []bool{false, true} {
			f := sample{wide(64, 1), 1}.form()
			f.keys[i] = api.SortKey{Column: 13, Desc: desc}
			want := api.ErrFormat
			if i == 50 {
				want = api.OK
			}
			if got, _ := checkAgainstModel(t, "a column twice", f.file()); got != want {
				t.Errorf("sort key %d of column 13: error %d, want %d", i, got, want)
			}
		}
	}
}

// chunk returns a column chunk.
func chunk(typ int, values ...api.Value) []byte {
	v, e := vector.FromValues(typ, values)
	if e != api.OK {
		panic(e)
	}
	b, e := column.Encode(v)
	if e != api.OK {
		panic(e)
	}
	return b
}

// spoiled returns files that Open refuses with ErrFormat, though each part is valid on its own, by what is wrong. They are made of a file with groups of 2, 2 and 1 rows.
func spoiled() map[string][]byte {
	all := map[string][]byte{}
	spoil := func(name string, change func(f *form)) {
		f := sample{mixed(5), 2}.form()
		change(&f)
		all[name] = f.file()
	}
	for i := range 3 {
		name := "group " + strconv.Itoa(i)
		spoil(name+" with a column less", func(f *form) { f.groups[i].dropColumn() })
		spoil(name+" with a column more", func(f *form) { f.shift(i+1, f.groups[i].addColumn()) })
		for c, column := range mixed(0).columns {
			for _, v := range []api.Value{truth(1), number(1), text("x")} {
				if v.Kind != column.Type {
					spoil(name+", column "+column.Name+" of kind "+strconv.Itoa(v.Kind), func(f *form) {
						f.groups[i].meta.Zones[c] = api.ZoneMap{Rows: f.groups[i].meta.Rows, Min: v, Max: v}
					})
				}
			}
		}
		for _, by := range []int{1, -1, -4, 4, 1 << 8, 1 << 16, 1 << 31, 1 << 32, 1 << 62, math.MinInt} {
			spoil(name+" shifted by "+strconv.Itoa(by), func(f *form) { f.groups[i].offset += uint64(by) })
			spoil(name+" and all behind it shifted by "+strconv.Itoa(by), func(f *form) { f.shift(i, by) })
		}
		spoil(name+" at 0", func(f *form) { f.groups[i].offset = 0 })
		spoil(name+" at 2^64 - 1", func(f *form) { f.groups[i].offset = math.MaxUint64 })
		spoil(name+" a byte longer", func(f *form) { f.groups[i].meta.Offsets[5]++ })
		spoil(name+" a byte shorter", func(f *form) { f.groups[i].meta.Offsets[5]-- })
		spoil(name+" as long as can be", func(f *form) { f.groups[i].meta.Offsets[5] = f.groups[i].meta.Offsets[4] + 1<<30 })
		spoil(name+" without its bytes", func(f *form) { f.groups[i].bytes = nil })
		spoil(name+" followed by a byte", func(f *form) { f.groups[i].bytes = append(f.groups[i].bytes, 0) })
		spoil(name+" followed by a byte, all behind it shifted", func(f *form) {
			f.groups[i].bytes = append(f.groups[i].bytes, 0)
			f.shift(i+1, 1)
		})
		spoil(name+" behind a byte", func(f *form) {
			f.groups[i].bytes = append([]byte{0}, f.groups[i].bytes...)
			f.shift(i, 1)
		})
		spoil(name+" overlapping with what is in front of it", func(f *form) {
			f.groups[i].bytes = f.groups[i].bytes[1:]
			f.shift(i, -1)
		})
		spoil(name+" not listed", func(f *form) {
			f.groups[(i+1)%3].bytes = append(f.groups[(i+1)%3].bytes, f.groups[i].bytes...)
			f.groups = slices.Delete(f.groups, i, i+1)
			f.countAgain()
		})
		spoil(name+" twice", func(f *form) {
			f.groups = slices.Insert(f.groups, i, groupForm{offset: f.groups[i].offset, meta: f.groups[i].meta})
			f.countAgain()
		})
		spoil(name+" of other rows", func(f *form) { f.groups[i].setRows(f.groups[i].meta.Rows + 3) })
	}
	for c, column := range mixed(0).columns {
		for _, rows := range []int{0, 1, 2, 4, 6, 10, math.MaxInt32} {
			spoil("a sketch of "+strconv.Itoa(rows)+" rows for column "+column.Name, func(f *form) { f.sketches[c] = nullSketch(rows) })
		}
	}
	spoil("all sketches of 6 rows", func(f *form) { f.sketches = slices.Repeat([]api.Sketch{nullSketch(6)}, 5) })
	spoil("groups in another order", func(f *form) { slices.Reverse(f.groups) })
	spoil("no groups", func(f *form) { f.groups, f.sketches = nil, slices.Repeat([]api.Sketch{nullSketch(5)}, 5) })
	return all
}

// shift adds the number of bytes to the offset of group i and of all behind it.
func (f *form) shift(i, by int) {
	for k := range f.groups[i:] {
		f.groups[i+k].offset += uint64(by)
	}
}

// nullSketch returns the sketch of so many NULLs.
func nullSketch(rows int) api.Sketch {
	s := sketch.Build(nil)
	s.Rows, s.Nulls = rows, rows
	return s
}

// countAgain gives f sketches that have as many rows as its groups.
func (f *form) countAgain() {
	rows := 0
	for _, g := range f.groups {
		rows += g.meta.Rows
	}
	f.sketches = slices.Repeat([]api.Sketch{nullSketch(rows)}, len(f.columns))
}

// dropColumn joins the last column to the one before.
func (g *groupForm) dropColumn() {
	m := &g.meta
	last := len(m.Zones) - 1
	m.Offsets = slices.Delete(m.Offsets, last, last+1)
	m.Zones, m.Blooms = m.Zones[:last], m.Blooms[:last]
}

// addColumn adds a column of NULLs and returns the number of its bytes.
func (g *groupForm) addColumn() int {
	m := &g.meta
	b := chunk(api.Null, make([]api.Value, m.Rows)...)
	g.bytes = append(g.bytes, b...)
	m.Offsets = append(m.Offsets, len(g.bytes))
	m.Zones = append(m.Zones, api.ZoneMap{Rows: m.Rows, Nulls: m.Rows})
	m.Blooms = append(m.Blooms, api.BloomFilter{})
	return len(b)
}

// setRows makes the metadata that of so many rows of NULLs.
func (g *groupForm) setRows(rows int) {
	g.meta.Rows = rows
	for c := range g.meta.Zones {
		g.meta.Zones[c] = api.ZoneMap{Rows: rows, Nulls: rows}
	}
}

// P19.2: the parts have to fit together.
func TestPartsThatDoNotFit(t *testing.T) {
	if e, _ := checkAgainstModel(t, "good", sample{mixed(5), 2}.form().file()); e != api.OK {
		t.Fatalf("error %d", e)
	}
	for name, b := range spoiled() {
		if e, _ := checkAgainstModel(t, name, b); e != api.ErrFormat {
			t.Errorf("%s: error %d", name, e)
		}
	}
	for _, extra := range []string{"\x00", "1234", strings.Repeat("x", 300)} {
		checkError(t, "bytes without groups", assemble([]byte(extra), slices.Concat(sample{ints(), 1}.form().fields()...)), api.ErrFormat)
		f := sample{mixed(5), 2}.form()
		checkError(t, "bytes behind the groups", assemble(append(f.body(), extra...), slices.Concat(f.fields()...)), api.ErrFormat)
		checkError(t, "bytes before the groups", assemble(append([]byte(extra), f.body()...), slices.Concat(f.fields()...)), api.ErrFormat)
	}
}

// TestPartsThatFit: of what is stored twice, only what the promise names is compared.
func TestPartsThatFit(t *testing.T) {
	for _, x := range []struct {
		name   string
		change func(f *form)
	}{
		{"other bounds", func(f *form) { f.groups[1].meta.Zones[0].Max = number(1 << 40) }},
		{"other numbers of NULLs", func(f *form) { f.groups[0].meta.Zones[3] = api.ZoneMap{Rows: 2, Nulls: 2} }},
		{"NULLs where there are none", func(f *form) { f.groups[0].meta.Zones[2] = api.ZoneMap{Rows: 2, Nulls: 2} }},
		{"bounds of the greatest size", func(f *form) {
			f.groups[2].meta.Zones[1] = api.ZoneMap{Rows: 1, Min: text(strings.Repeat("x", 4096)), Max: text(strings.Repeat("x", 4096))}
		}},
		{"another filter", func(f *form) { f.groups[0].meta.Blooms[0] = bloom.Build([]api.Value{text("y")}, 3) }},
		{"no filters", func(f *form) { f.groups[1].meta.Blooms = make([]api.BloomFilter, 5) }},
		{"a sketch of other NULLs", func(f *form) { f.sketches[0] = sketch.Build(make([]api.Value, 5)) }},
		{"a sketch of another kind", func(f *form) { f.sketches[3] = sketch.Build(slices.Repeat([]api.Value{text("x")}, 5)) }},
		{"a sketch of other values", func(f *form) { f.sketches[4] = f.sketches[0] }},
		{"other names", func(f *form) { f.columns[0].Name, f.columns[1].Name = "y", "x" }},
		{"NotNull of a column with NULLs", func(f *form) { f.columns[4].NotNull = true }},
		{"no sort keys", func(f *form) { f.keys = nil }},
		{"other sort keys", func(f *form) { f.keys = []api.SortKey{{Column: 4}, {Column: 1, Desc: true}} }},
	} {
		f := sample{mixed(5), 2}.form()
		x.change(&f)
		open, rows := checkAgainstModel(t, x.name, f.file())
		if open != api.OK || rows != api.OK {
			t.Errorf("%s: Open has error %d, Rows has error %d", x.name, open, rows)
		}
		if got, e := datafile.Rows(f.file()); e != api.OK || !sameRows(got, mixed(5).rows) {
			t.Errorf("%s: Rows = %v, error %d", x.name, got, e)
		}
	}
}

// rechunked returns the file of ints(1, 2, 3, 4, 5) with 2 rows per group and with these bytes in the place of the chunk of group i.
func rechunked(chunks map[int][]byte) []byte {
	f := sample{ints(1, 2, 3, 4, 5), 2}.form()
	offset := 4
	for i := range f.groups {
		if b, ok := chunks[i]; ok {
			f.groups[i].bytes, f.groups[i].meta.Offsets = b, []int{0, len(b)}
		}
		f.groups[i].offset = uint64(offset)
		offset += len(f.groups[i].bytes)
	}
	return f.file()
}

// P19.2: Rows returns the error of the first group with one; Open and Meta do not read the groups.
func TestRowsOfDamagedGroups(t *testing.T) {
	flipped := chunk(api.Int, number(3), number(4))
	flipped[3] ^= 1
	bad := map[string]struct {
		b []byte
		e api.Errno
	}{
		"flipped":    {flipped, api.ErrChecksum},
		"short":      {[]byte("abc"), api.ErrShort},
		"texts":      {chunk(api.Text, text("x"), text("y")), api.ErrType},
		"nothing":    {chunk(api.Null, null(), null()), api.ErrType},
		"other rows": {chunk(api.Int, number(1), number(2), number(3), number(4), number(5)), api.ErrCount},
		"type 4":     {binary.LittleEndian.AppendUint32([]byte("\x04\x02"), crc([]byte("\x04\x02"))), api.ErrFormat},
	}
	check := func(name string, b []byte, want api.Errno) {
		t.Helper()
		open, rows := checkAgainstModel(t, name, b)
		if open != api.OK || rows != want {
			t.Errorf("%s: Open has error %d, Rows has error %d, want %d", name, open, rows, want)
		}
		if m, e := datafile.Meta(b); e != api.OK || m.Rows != 5 || m.Zones[0].Max != number(5) {
			t.Errorf("%s: Meta = %.80v, error %d", name, m, e)
		}
	}
	check("good", rechunked(nil), api.OK)
	for first, x := range bad {
		for i := range 2 {
			check(first, rechunked(map[int][]byte{i: x.b}), x.e)
			for second, y := range bad {
				check(first+", then "+second, rechunked(map[int][]byte{i: x.b, i + 1: y.b}), x.e)
			}
		}
		if x.e != api.ErrType { // the last group has one row
			check(first, rechunked(map[int][]byte{2: x.b}), x.e)
		}
	}
}
