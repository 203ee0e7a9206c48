package datafile_test

import (
	"bytes"
	"slices"
	"testing"

	"lamina/api"
	"lamina/bloom"
	"lamina/datafile"
	"lamina/rowgroup"
	"lamina/sketch"
	"lamina/value"
	"lamina/vector"
	"lamina/zonemap"
)

// P19.4: the rows are read as they were written, in one file or group by group.
func TestRoundTrip(t *testing.T) {
	for _, s := range samples() {
		b, m := s.write(t)
		columns, groups, offsets, e := datafile.Open(b)
		if e != api.OK {
			t.Fatal(e)
		}
		var rows []api.Row
		for i, g := range groups {
			batch, e := rowgroup.Decode(datafile.Group(b, groups, offsets, i), g, types(columns))
			if e != api.OK {
				t.Errorf("%s: group %d has error %d", s.describe(), i, e)
			}
			rows = append(rows, vector.Rows(batch)...)
		}
		if !sameRows(rows, s.rows) {
			t.Errorf("%s: the groups have the rows %.80v", s.describe(), rows)
		}
		if again, e := datafile.Rows(b); e != api.OK || !sameRows(again, s.rows) {
			t.Errorf("%s: Rows = %.80v, error %d", s.describe(), again, e)
		}
		if again, e := datafile.Meta(b); e != api.OK || !sameMeta(again, m) {
			t.Errorf("%s: Meta = %.80v, error %d", s.describe(), again, e)
		}
	}
}

// counts returns how many of the values are equal to v, and how many are less.
func counts(values []api.Value, v api.Value) (equal, less int64) {
	for _, x := range values {
		switch {
		case x == null():
		case value.Compare(x, v) == 0:
			equal++
		case value.Compare(x, v) < 0:
			less++
		}
	}
	return equal, less
}

func within(n int64, b api.Bounds) bool {
	return b.Min <= n && n <= b.Max
}

// P19.5
func TestSoundness(t *testing.T) {
	for _, s := range samples() {
		if len(s.rows) > 600 { // each value is compared with all others
			continue
		}
		b, _ := s.write(t)
		m, e := datafile.Meta(b)
		if e != api.OK || len(m.Zones) != len(s.columns) || len(m.Sketches) != len(s.columns) {
			t.Errorf("%s: Meta = %.80v, error %d", s.describe(), m, e)
			continue
		}
		for c := range s.columns {
			values := s.column(c)
			z, sk := m.Zones[c], m.Sketches[c]
			if !zonemap.Valid(z) || !sketch.Valid(sk) || z.Rows != len(values) || sk.Rows != len(values) || z.Nulls != sk.Nulls {
				t.Errorf("%s: column %d has the zone map %v and the sketch %.80v", s.describe(), c, z, sk)
			}
			for _, v := range append(slices.Clone(values), number(3), text("row 3"), truth(0)) {
				equal, less := counts(values, v)
				if v != null() && (!within(equal, sketch.CountEqual(sk, v)) || !within(less, sketch.CountLess(sk, v))) {
					t.Errorf("%s: column %d has %d values equal to %v and %d less", s.describe(), c, equal, v, less)
				}
			}
			if i := slices.IndexFunc(values, func(v api.Value) bool { return !zonemap.Contains(z, v) }); i >= 0 {
				t.Errorf("%s: the zone map %v of column %d lacks %v", s.describe(), z, c, values[i])
			}
		}
	}
}

// TestGroupsAreSound: no value is excluded by the zone map or by the filter of its group.
func TestGroupsAreSound(t *testing.T) {
	for _, s := range samples() {
		b, _ := s.write(t)
		_, groups, _, _ := datafile.Open(b)
		for i, g := range groups {
			for _, row := range s.rows[i*s.groupRows : i*s.groupRows+g.Rows] {
				for c, v := range row {
					if !zonemap.Contains(g.Zones[c], v) || v != null() && !bloom.MayContain(g.Blooms[c], v) {
						t.Fatalf("%s: group %d excludes %v in column %d", s.describe(), i, v, c)
					}
				}
			}
		}
	}
}

// General rules R4 and R5

func TestArgumentsAreNotChanged(t *testing.T) {
	for _, s := range small() {
		before := sample{table{slices.Clone(s.columns), slices.Clone(s.keys), nil}, s.groupRows}
		for _, row := range s.rows {
			before.rows = append(before.rows, slices.Clone(row))
		}
		b, _ := s.write(t)
		if !slices.Equal(s.columns, before.columns) || !slices.Equal(s.keys, before.keys) || !sameRows(s.rows, before.rows) {
			t.Errorf("%s: Write changed its arguments", before.describe())
		}
		kept := slices.Clone(b)
		datafile.Open(b)
		datafile.Rows(b)
		datafile.Meta(b)
		if !bytes.Equal(b, kept) {
			t.Errorf("%s: the file was changed", before.describe())
		}
	}
}

// wipe writes to everything that hangs on metadata.
func wipe(m api.DataFile) {
	clear(m.Zones)
	clear(m.SortKeys)
	for _, s := range m.Sketches {
		clear(s.MinHashes)
		clear(s.CountMin)
		clear(s.Fences)
		clear(s.Ranks)
	}
	clear(m.Sketches)
}

// wipeGroups writes to everything that hangs on metadata of groups.
func wipeGroups(groups []api.RowGroup) {
	for _, g := range groups {
		clear(g.Offsets)
		clear(g.Zones)
		for _, f := range g.Blooms {
			clear(f.Bits.Words)
		}
		clear(g.Blooms)
	}
	clear(groups)
}

func TestResultsShareNoMemory(t *testing.T) {
	s := sample{mixed(70), 16}
	f := s.form()
	want, wantM := f.file(), metaOf(f.file(), s.table)
	x := mixed(70)
	b, m, _ := datafile.Write(config(16), x.columns, x.keys, x.rows)
	other, otherM, _ := datafile.Write(config(16), x.columns, x.keys, x.rows)
	clear(x.columns)
	clear(x.keys)
	for _, row := range x.rows {
		clear(row)
	}
	clear(other)
	wipe(otherM)
	if !bytes.Equal(b, want) || !sameMeta(m, wantM) {
		t.Error("a result of Write changed with an argument or with another result")
	}
	columns, groups, offsets, _ := datafile.Open(b)
	otherColumns, otherGroups, otherOffsets, _ := datafile.Open(b)
	group, otherGroup := datafile.Group(b, groups, offsets, 1), datafile.Group(b, groups, offsets, 1)
	rows, _ := datafile.Rows(b)
	otherRows, _ := datafile.Rows(b)
	m, _ = datafile.Meta(b)
	otherM, _ = datafile.Meta(b)
	clear(otherColumns)
	wipeGroups(otherGroups)
	clear(otherOffsets)
	clear(otherGroup)
	for _, row := range otherRows[1:] {
		clear(row)
	}
	wipe(otherM)
	clear(b)
	wantGroups, wantOffsets := f.metas()
	if !slices.Equal(columns, f.columns) || !slices.EqualFunc(groups, wantGroups, sameGroup) || !slices.Equal(offsets, wantOffsets) {
		t.Error("a result of Open changed")
	}
	if !bytes.Equal(group, f.groups[1].bytes) || !sameRows(rows, s.rows) || !sameRows(otherRows[:1], s.rows[:1]) || !sameMeta(m, wantM) {
		t.Error("a result of Group, Rows or Meta changed")
	}
}

// TestBytesBehindAFile: what lies behind the end of a slice is neither read nor written.
func TestBytesBehindAFile(t *testing.T) {
	for _, s := range small() {
		b, _ := s.write(t)
		long := slices.Concat(b, []byte("behind"))
		part := long[:len(b)]
		checkAgainstModel(t, "bytes behind", part)
		if !bytes.Equal(long[len(b):], []byte("behind")) {
			t.Errorf("%s: the bytes behind the file were changed", s.describe())
		}
		_, groups, offsets, _ := datafile.Open(part)
		for i := range groups {
			_ = append(datafile.Group(part, groups, offsets, i), "more"...)
		}
		if !bytes.Equal(part, b) {
			t.Errorf("%s: what is appended to a group is seen in the file", s.describe())
		}
	}
}

func TestResultsAreTheSameAgain(t *testing.T) {
	for _, s := range samples() {
		b, m := s.write(t)
		again, againM := s.write(t)
		if !bytes.Equal(again, b) || !sameMeta(againM, m) {
			t.Errorf("%s: Write returns another file", s.describe())
		}
	}
}
