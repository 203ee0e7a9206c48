package column

import (
	"bytes"
	"slices"

	"lamina/api"
	"lamina/bitset"
	"lamina/checksum"
	"lamina/encoding"
	"lamina/varint"
)

// header is what a chunk tells of its vector before the values.
type header struct {
	typ, rows, nulls int
}

// reader reads the parts of a chunk one after another. It raises the first error by a panic, which attempt recovers.
type reader struct {
	b      []byte // what was sealed
	offset int    // of the next part
}

// attempt returns what read returns, or the error that it raises.
func attempt[T any](read func() T) (result T, e api.Errno) {
	defer func() {
		if raised := recover(); raised != nil {
			e = raised.(api.Errno) // nothing else is raised
		}
	}()
	return read(), api.OK
}

// demand raises e unless the condition is met.
func demand(condition bool, e api.Errno) {
	if !condition {
		panic(e)
	}
}

// pass raises e if it is an error.
func pass(e api.Errno) {
	demand(e == api.OK, e)
}

// openChunk returns a reader of what the chunk b seals.
func openChunk(b []byte) *reader {
	opened, e := checksum.Open(b)
	pass(e)
	return &reader{b: opened}
}

// decode returns the vector of the chunk b.
func decode(b []byte) api.Vector {
	r := openChunk(b)
	v := r.vector(r.header())
	demand(r.offset == len(r.b), api.ErrLong)
	// The values may be encoded in an encoding that is not the one of least size.
	again, e := Encode(v)
	pass(e)
	demand(bytes.Equal(again, b), api.ErrFormat)
	return v
}

func (r *reader) header() header {
	h := header{typ: r.typ()}
	h.rows = r.number(api.MaxGroupRows, api.ErrCount)
	h.nulls = h.rows
	if h.typ != api.Null {
		h.nulls = r.number(h.rows, api.ErrRange)
	}
	return h
}

func (r *reader) typ() int {
	demand(r.offset < len(r.b), api.ErrShort)
	typ := int(r.b[r.offset])
	demand(typ <= api.Text, api.ErrFormat)
	r.offset++
	return typ
}

// number reads a number; e is the error of one that exceeds the limit.
func (r *reader) number(limit int, e api.Errno) int {
	n, next, failure := varint.Decode(r.b, r.offset)
	pass(failure)
	demand(n <= uint64(limit), e)
	r.offset = next
	return int(n)
}

// vector reads what follows the header h.
func (r *reader) vector(h header) api.Vector {
	v := api.Vector{Type: h.typ, Nulls: r.nulls(h)}
	switch h.typ {
	case api.Bool, api.Int:
		v.Ints = spread(r.values(h).Ints, v.Nulls)
	case api.Text:
		v.Texts = spread(r.values(h).Texts, v.Nulls)
	}
	return v
}

// nulls reads which rows are NULL. A chunk does not say so where its header tells it: where all rows are NULL by their type, or none is.
func (r *reader) nulls(h header) []bool {
	if h.typ == api.Null {
		return slices.Repeat([]bool{true}, h.rows)
	}
	nulls := make([]bool, h.rows)
	if h.nulls == 0 {
		return nulls
	}
	rows, next, e := bitset.Decode(r.b, r.offset)
	pass(e)
	demand(rows.N == h.rows && bitset.Count(rows) == h.nulls, api.ErrCount)
	r.offset = next
	for i := range bitset.All(rows) {
		nulls[i] = true
	}
	return nulls
}

// values reads the values that are not NULL.
func (r *reader) values(h header) api.Vector {
	values, size, e := encoding.Decode(r.b[r.offset:], h.typ, h.rows-h.nulls)
	pass(e)
	r.offset += size
	return values
}

// spread returns a list with the values, in order, in the rows that are not NULL, and the zero value in those that are.
func spread[T any](values []T, nulls []bool) []T {
	list := make([]T, len(nulls))
	next := 0
	for i, null := range nulls {
		if !null {
			list[i] = values[next]
			next++
		}
	}
	return list
}
