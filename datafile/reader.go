package datafile

import (
	"lamina/api"
	"lamina/rowgroup"
	"lamina/sketch"
	"lamina/varint"
)

// byteReader reads parts of b, one after another. After the first error it reads nothing but zero values.
type byteReader struct {
	b    []byte
	next int // the offset of the next part
	e    api.Errno
}

// demand keeps the error e unless the condition is met or there is an error already.
func (r *byteReader) demand(condition bool, e api.Errno) {
	if r.e == api.OK && !condition {
		r.e = e
	}
}

// bytes reads the next size bytes.
func (r *byteReader) bytes(size int) []byte {
	r.demand(size <= len(r.b)-r.next, api.ErrShort)
	if r.e != api.OK {
		return nil
	}
	start := r.next
	r.next += size
	return r.b[start:r.next]
}

// byte reads the next byte.
func (r *byteReader) byte() byte {
	b := r.bytes(1)
	if len(b) == 0 {
		return 0
	}
	return b[0]
}

// flag reads a byte that is 0 or 1.
func (r *byteReader) flag() bool {
	c := r.byte()
	r.demand(c <= 1, api.ErrFormat)
	return c == 1
}

// number reads a number of any size.
func (r *byteReader) number() uint64 {
	return part(r, varint.Decode)
}

// count reads a number that is at most the limit; e is the error of a greater one.
func (r *byteReader) count(limit int, e api.Errno) int {
	n := r.number()
	if n > uint64(limit) {
		r.demand(false, e)
		return 0
	}
	return int(n)
}

// part reads what decode finds next.
func part[T any](r *byteReader, decode func(b []byte, offset int) (T, int, api.Errno)) T {
	if r.e != api.OK {
		var zero T
		return zero
	}
	x, next, e := decode(r.b, r.next)
	r.next, r.e = next, e
	return x
}

// footerReader reads the footer f from its bytes.
type footerReader struct {
	byteReader
	f footer
}

// footer reads all fields, one after another.
func (r *footerReader) footer() {
	for range r.count(api.MaxColumns, api.ErrCount) {
		r.f.columns = append(r.f.columns, r.column())
	}
	for range r.count(api.MaxColumns, api.ErrCount) {
		r.f.keys = append(r.f.keys, r.key())
	}
	for range r.count(api.MaxGroups, api.ErrCount) {
		r.f.offsets = append(r.f.offsets, r.offset())
		r.f.groups = append(r.f.groups, part(&r.byteReader, rowgroup.DecodeMeta))
	}
	for range r.f.columns {
		r.f.sketches = append(r.f.sketches, part(&r.byteReader, sketch.Decode))
	}
	r.demand(r.next == len(r.b), api.ErrLong)
}

func (r *footerReader) column() api.Column {
	size := r.count(api.MaxName, api.ErrLong)
	c := api.Column{Name: string(r.bytes(size)), Type: int(r.byte())}
	r.demand(isType(c.Type), api.ErrFormat)
	c.NotNull = r.flag()
	return c
}

func (r *footerReader) key() api.SortKey {
	column := r.number()
	r.demand(column < uint64(len(r.f.columns)), api.ErrRange)
	return api.SortKey{Column: int(column), Desc: r.flag()}
}

// offset reads the byte offset of a row group. One that does not fit into an int becomes negative, and no row group starts there.
func (r *footerReader) offset() int {
	return int(r.number())
}
