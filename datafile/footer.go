package datafile

import (
	"slices"

	"lamina/api"
	"lamina/checksum"
	"lamina/rowgroup"
	"lamina/sketch"
	"lamina/varint"
	"lamina/zonemap"
)

const (
	magic        = "LMNA"
	lengthSize   = 4 // bytes of the length of the footer
	checksumSize = 4
	tailSize     = lengthSize + checksumSize
)

// footer is what the footer of a data file tells.
type footer struct {
	columns  []api.Column
	keys     []api.SortKey
	groups   []api.RowGroup
	offsets  []int        // of the groups in the file
	sketches []api.Sketch // of the columns
}

// encode returns the fields of f, one after another.
func (f footer) encode() []byte {
	var b []byte
	number := func(n int) { b = append(b, varint.Encode(uint64(n))...) }
	number(len(f.columns))
	for _, c := range f.columns {
		number(len(c.Name))
		b = append(b, c.Name...)
		b = append(b, byte(c.Type), flag(c.NotNull))
	}
	number(len(f.keys))
	for _, k := range f.keys {
		number(k.Column)
		b = append(b, flag(k.Desc))
	}
	number(len(f.groups))
	for i, g := range f.groups {
		number(f.offsets[i])
		b = append(b, rowgroup.EncodeMeta(g)...)
	}
	for _, s := range f.sketches {
		b = append(b, sketch.Encode(s)...)
	}
	return b
}

func flag(set bool) byte {
	if set {
		return 1
	}
	return 0
}

// seal returns the bytes that follow the row groups: the footer, its length and the checksum of both.
func (f footer) seal() []byte {
	b := f.encode()
	return checksum.Seal(varint.Concat(b, varint.Fixed(uint64(len(b)), lengthSize)))
}

// meta returns the metadata of the file of this size.
func (f footer) meta(size int) api.DataFile {
	return api.DataFile{Rows: f.rows(), Bytes: size, Zones: f.zones(), Sketches: f.sketches, SortKeys: slices.Clone(f.keys)}
}

// rows returns the number of rows of the file.
func (f footer) rows() int {
	n := 0
	for _, g := range f.groups {
		n += g.Rows
	}
	return n
}

// zones returns the zone map of each column of the file.
func (f footer) zones() []api.ZoneMap {
	zones := make([]api.ZoneMap, len(f.columns))
	for _, g := range f.groups {
		for c := range zones {
			zones[c] = zonemap.Merge(zones[c], g.Zones[c])
		}
	}
	return zones
}

// openFooter returns the footer of the data file b, which may be anything.
func openFooter(b []byte) (footer, api.Errno) {
	start, e := footerStart(b)
	if e != api.OK {
		return footer{}, e
	}
	if _, e := checksum.Open(b[start:]); e != api.OK {
		return footer{}, e
	}
	r := footerReader{byteReader: byteReader{b: b[start : len(b)-tailSize]}}
	r.footer()
	if r.e != api.OK {
		return footer{}, r.e
	}
	if !r.f.valid(start) {
		return footer{}, api.ErrFormat
	}
	return r.f, api.OK
}

// footerStart returns the byte offset of the footer in the data file b.
func footerStart(b []byte) (int, api.Errno) {
	if len(b) < len(magic)+tailSize {
		return 0, api.ErrShort
	}
	if string(b[:len(magic)]) != magic {
		return 0, api.ErrFormat
	}
	end := len(b) - tailSize
	length, e := varint.ReadFixed(b, end, lengthSize)
	if e != api.OK {
		return 0, e
	}
	if length > uint64(end-len(magic)) {
		return 0, api.ErrShort
	}
	return end - int(length), api.OK
}
