package rowgroup

import (
	"lamina/api"
	"lamina/bloom"
	"lamina/varint"
	"lamina/zonemap"
)

const maxChunk = 1 << 30 // bytes of a chunk that DecodeMeta accepts

// EncodeMeta returns the counts and the chunk sizes of g, and the zone map and the Bloom filter of each column (P18.4).
func EncodeMeta(g api.RowGroup) []byte {
	b := varint.Concat(varint.Encode(uint64(g.Rows)), varint.Encode(uint64(len(g.Zones))))
	for i := range max(0, len(g.Offsets)-1) {
		b = append(b, varint.Encode(uint64(g.Offsets[i+1]-g.Offsets[i]))...)
	}
	for i, z := range g.Zones {
		b = append(b, zonemap.Encode(z)...)
		b = append(b, bloom.Encode(filterOf(g, i))...)
	}
	return b
}

// DecodeMeta reads the metadata that EncodeMeta wrote at offset and returns it and the offset after it (P18.4).
func DecodeMeta(b []byte, offset int) (api.RowGroup, int, api.Errno) {
	r := &metaReader{b: b, offset: offset}
	g, e := attempt(r.group)
	if e != api.OK {
		return api.RowGroup{}, 0, e
	}
	return g, r.offset, api.OK
}

// metaReader reads the parts of metadata one after another. It raises the first error by a panic, which attempt recovers.
type metaReader struct {
	b      []byte
	offset int // of the next part
}

func (r *metaReader) group() api.RowGroup {
	g := api.RowGroup{Rows: r.number(api.MaxGroupRows), Offsets: []int{0}}
	columns := r.number(api.MaxColumns)
	for i := range columns {
		g.Offsets = append(g.Offsets, g.Offsets[i]+r.number(maxChunk))
	}
	for range columns {
		z, f := part(r, zonemap.Decode), part(r, bloom.Decode)
		demand(z.Rows == g.Rows, api.ErrFormat)
		g.Zones = append(g.Zones, z)
		g.Blooms = append(g.Blooms, f)
	}
	return g
}

// number reads a number that is at least 1 and at most the limit.
func (r *metaReader) number(limit uint64) int {
	n := part(r, varint.Decode)
	demand(1 <= n && n <= limit, api.ErrRange)
	return int(n)
}

// part reads what decode finds next.
func part[T any](r *metaReader, decode func(b []byte, offset int) (T, int, api.Errno)) T {
	x, next, e := decode(r.b, r.offset)
	pass(e)
	r.offset = next
	return x
}
