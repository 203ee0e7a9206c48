package datafile_test

import (
	"bytes"
	"math"
	"slices"
	"strings"
	"testing"

	"lamina/api"
	"lamina/datafile"
	"lamina/sketch"
)

// sequences returns all sequences of up to length elements of the alphabet.
func sequences(alphabet []byte, length int) [][]byte {
	all := [][]byte{{}}
	for start := 0; length > 0; length-- {
		end := len(all)
		for _, s := range all[start:end] {
			for _, x := range alphabet {
				all = append(all, append(slices.Clone(s), x))
			}
		}
		start = end
	}
	return all
}

// count tells how many files had which error of Open.
type count map[api.Errno]int

// check compares a file with the model and counts it.
func (c count) check(t *testing.T, name string, b []byte) {
	t.Helper()
	e, _ := checkAgainstModel(t, name, b)
	c[e]++
}

// demand fails unless each of the errors was there.
func (c count) demand(t *testing.T, all ...api.Errno) {
	t.Helper()
	for _, e := range all {
		if c[e] == 0 {
			t.Errorf("no file had error %d", e)
		}
	}
}

// P19.2: every short footer, alone or in front of the rest of a good one
func TestShortFooters(t *testing.T) {
	seen := count{}
	rests := []string{"", "\x00\x00" + emptySketch(), "a\x02\x00\x00\x00" + emptySketch(), "\x01a\x02\x00\x00\x00" + emptySketch()}
	for _, start := range sequences([]byte{0, 1, 2, 3, 'a', 33, 65, 128, 255}, 4) {
		for _, rest := range rests {
			seen.check(t, "short footer", assemble(nil, append(start, rest...)))
		}
	}
	for _, head := range []string{"\x01\x01a\x02\x00", "\x02\x01a\x02\x00\x01b\x01\x01"} {
		for _, part := range sequences([]byte{0, 1, 2, 4, 65, 128, 129}, 4) {
			seen.check(t, "short footer", assemble(nil, slices.Concat([]byte(head), part, []byte(emptySketch()))))
		}
	}
	seen.demand(t, api.OK, api.ErrShort, api.ErrFormat, api.ErrCount, api.ErrLong, api.ErrRange)
}

// places returns the indices of a footer with these fields that are worth a change. The middle of a sketch holds its counters, which are the matter of another package.
func places(fields [][]byte) []int {
	var all []int
	start := 0
	for _, field := range fields {
		for i := range field {
			if i < 6 || i >= len(field)-6 || len(field) < 256 {
				all = append(all, start+i)
			}
		}
		start += len(field)
	}
	return all
}

// TestDamagedFooters seals footers again after a bit is flipped, or a byte is replaced, added or removed.
func TestDamagedFooters(t *testing.T) {
	seen := count{}
	for _, s := range small() {
		f := s.form()
		body, footer := f.body(), slices.Concat(f.fields()...)
		for _, i := range places(f.fields()) {
			for bit := range 8 {
				changed := slices.Clone(footer)
				changed[i] ^= 1 << bit
				seen.check(t, "flipped bit", assemble(body, changed))
			}
			seen.check(t, "byte removed", assemble(body, slices.Concat(footer[:i], footer[i+1:])))
			seen.check(t, "cut", assemble(body, footer[:i]))
			seen.check(t, "cut in front", assemble(body, footer[i:]))
			for _, c := range []byte{0, 1, 128, 255} {
				seen.check(t, "byte added", assemble(body, slices.Concat(footer[:i], []byte{c}, footer[i:])))
				changed := slices.Clone(footer)
				changed[i] = c
				seen.check(t, "byte replaced", assemble(body, changed))
			}
		}
		for c := range 256 {
			seen.check(t, "byte behind", assemble(body, append(slices.Clone(footer), byte(c))))
		}
	}
	seen.demand(t, api.OK, api.ErrShort, api.ErrFormat, api.ErrCount, api.ErrLong, api.ErrRange)
}

// fewFields are put in the place of fields that are replaced in pairs.
func fewFields() [][]byte {
	var all [][]byte
	for _, s := range []string{"", "\x00", "\x02", "\x41", "\x80", "\x80\x00", "\x81\x02", "\xff\xff\xff\xff\xff\xff\xff\xff\xff\x01"} {
		all = append(all, []byte(s))
	}
	return all
}

// otherFields are put in the place of fields.
func otherFields() [][]byte {
	all := fewFields()
	for _, n := range []uint64{1, 3, 4, 5, 32, 33, 64, 127, 128, 255, 256, 4096, 4097, 1 << 30, 1 << 31, 1 << 32, 1 << 63} {
		all = append(all, uvarint(n))
	}
	for _, s := range []string{"\x81\x00", "\xff\xff\xff\xff\xff\xff\xff\xff\xff\x02", "\x02\xff", "\x00\x02", "A", "abc", strings.Repeat("n", 33)} {
		all = append(all, []byte(s))
	}
	return append(all, sketch.Encode(sketch.Build([]api.Value{text("x")})))
}

// replace calls visit with each of the others in the place of field i.
func replace(fields [][]byte, i int, others [][]byte, visit func()) {
	field := fields[i]
	for _, other := range others {
		fields[i] = other
		visit()
	}
	fields[i] = field
}

func TestReplacedFields(t *testing.T) {
	seen := count{}
	for _, s := range small() {
		body, fields := s.form().body(), s.form().fields()
		check := func(fields [][]byte) { seen.check(t, "other fields", assemble(body, slices.Concat(fields...))) }
		for i := range fields {
			replace(fields, i, otherFields(), func() { check(fields) })
			check(slices.Delete(slices.Clone(fields), i, i+1))
			check(slices.Insert(slices.Clone(fields), i, fields[i]))
			for j := range i {
				replace(fields, i, [][]byte{fields[j]}, func() { check(fields) })
				replace(fields, j, [][]byte{fields[i]}, func() { check(fields) })
			}
		}
	}
	seen.demand(t, api.OK, api.ErrShort, api.ErrFormat, api.ErrCount, api.ErrLong, api.ErrRange)
}

// TestPairsOfReplacedFields: the first error decides.
func TestPairsOfReplacedFields(t *testing.T) {
	seen := count{}
	x := extremesOf(3)
	x.columns, x.keys = x.columns[:2], []api.SortKey{{Column: 1, Desc: true}}
	for i := range x.rows {
		x.rows[i] = x.rows[i][:2]
	}
	s := sample{x, 2}
	body, fields := s.form().body(), s.form().fields()
	for i := range fields {
		for j := range i {
			replace(fields, i, fewFields(), func() {
				replace(fields, j, fewFields(), func() { seen.check(t, "two other fields", assemble(body, slices.Concat(fields...))) })
			})
		}
	}
	seen.demand(t, api.ErrShort, api.ErrFormat, api.ErrCount, api.ErrLong, api.ErrRange)
}

// P19.5 and P19.2: a flipped bit is found wherever it is, unless it changes a row group: then Rows finds it.
func TestFlippedBits(t *testing.T) {
	for _, s := range small() {
		b, m := s.write(t)
		start := 4 + len(s.form().body())
		for p := range 8 * len(b) {
			b[p/8] ^= 1 << (p % 8)
			open, rows := checkAgainstModel(t, "flipped bit", b)
			wantOpen, wantRows := api.ErrChecksum, api.ErrChecksum
			switch {
			case p/8 < 4:
				wantOpen, wantRows = api.ErrFormat, api.ErrFormat
			case p/8 < start:
				wantOpen = api.OK
				if got, e := datafile.Meta(b); e != api.OK || !sameMeta(got, m) {
					t.Errorf("%s: Meta with bit %d flipped = %.80v, error %d", s.describe(), p, got, e)
				}
			case len(b)-8 <= p/8 && p/8 < len(b)-4 && open == api.ErrShort: // the length
				wantOpen, wantRows = api.ErrShort, api.ErrShort
			}
			if open != wantOpen || rows != wantRows {
				t.Errorf("%s: with bit %d flipped Open has error %d, Rows has error %d, want %d and %d", s.describe(), p, open, rows, wantOpen, wantRows)
			}
			b[p/8] ^= 1 << (p % 8)
		}
	}
}

func TestCutFiles(t *testing.T) {
	seen := count{}
	for _, s := range small() {
		b, _ := s.write(t)
		for cut := range b {
			seen.check(t, "cut", b[:cut])
			seen.check(t, "cut in front", b[cut:])
			seen.check(t, "cut between", slices.Concat(b[:cut], b[cut+1:]))
			seen.check(t, "cut in two and joined again", slices.Concat(b[cut:], b[:cut]))
		}
	}
	seen.demand(t, api.ErrShort, api.ErrFormat, api.ErrChecksum)
}

// P19.3

func TestGroup(t *testing.T) {
	for _, s := range samples() {
		b, _ := s.write(t)
		_, groups, offsets, e := datafile.Open(b)
		if e != api.OK {
			t.Fatal(e)
		}
		f := s.form()
		if len(groups) != len(f.groups) {
			t.Fatalf("%s: %d groups, want %d", s.describe(), len(groups), len(f.groups))
		}
		for i, g := range f.groups {
			if got := datafile.Group(b, groups, offsets, i); !bytes.Equal(got, g.bytes) {
				t.Errorf("%s: Group %d = %.40x, want %.40x", s.describe(), i, got, g.bytes)
			}
		}
		n := len(groups)
		for _, i := range []int{-1, -n, -n - 1, n, n + 1, 2*n + 1, 1 << 32, math.MinInt, math.MaxInt} {
			if got := datafile.Group(b, groups, offsets, i); got != nil {
				t.Errorf("%s: Group %d = %.40x", s.describe(), i, got)
			}
		}
	}
}

// TestGroupOfOtherArguments: nothing is promised for what Open has not returned but an end without a panic.
func TestGroupOfOtherArguments(t *testing.T) {
	b := []byte("LMNA and more")
	for _, offsets := range [][]int{nil, {4}, {4, 5}, {-1, 5}, {math.MinInt, math.MaxInt}, {14, 13}, {13, 4}} {
		for _, ends := range [][]int{nil, {}, {0}, {0, 1}, {0, 9}, {0, 10}, {0, 100}, {0, -1}, {0, math.MinInt}, {0, math.MaxInt}} {
			groups := slices.Repeat([]api.RowGroup{{Rows: 1, Offsets: ends}}, 3)
			for i := -1; i < 5; i++ {
				got := datafile.Group(b, groups, offsets, i)
				if len(got) > 0 && !bytes.Contains(b, got) {
					t.Errorf("Group(%v, %v, %d) = %q", offsets, ends, i, got)
				}
				datafile.Group(nil, groups, offsets, i)
			}
		}
	}
}
