package rowgroup

import (
	"lamina/api"
	"lamina/bitset"
	"lamina/column"
)

// attempt returns what read returns, or the error that it raises by a panic.
func attempt[T any](read func() T) (result T, e api.Errno) {
	defer func() {
		if raised := recover(); raised != nil {
			e = raised.(api.Errno) // nothing else is raised
		}
	}()
	return read(), api.OK
}

// demand raises e unless the condition is met.
func demand(condition bool, e api.Errno) {
	if !condition {
		panic(e)
	}
}

// pass raises e if it is an error.
func pass(e api.Errno) {
	demand(e == api.OK, e)
}

// Decode returns the batch of the row group b with the metadata g, whose columns have these types (P18.2).
func Decode(b []byte, g api.RowGroup, types []int) (api.Batch, api.Errno) {
	return attempt(func() api.Batch {
		demand(valid(g) && len(types) == len(g.Zones), api.ErrArg)
		batch := api.Batch{Len: g.Rows, All: true}
		for i, typ := range types {
			v := readColumn(b, g, i)
			demand(v.Type == typ, api.ErrType)
			batch.Columns = append(batch.Columns, v)
		}
		demand(len(b) == size(g), api.ErrLong) // the columns have demanded as many bytes
		return batch
	})
}

// Column returns column i of the row group b with the metadata g (P18.2).
func Column(b []byte, g api.RowGroup, i int) (api.Vector, api.Errno) {
	return attempt(func() api.Vector {
		demand(valid(g) && isColumn(g, i), api.ErrArg)
		return readColumn(b, g, i)
	})
}

// Filter returns the rows of the row group b with the metadata g that satisfy all predicates (P18.3).
func Filter(b []byte, g api.RowGroup, predicates []api.Predicate) (api.Bitset, api.Errno) {
	return attempt(func() api.Bitset {
		demand(valid(g), api.ErrArg)
		for _, p := range predicates {
			demand(isColumn(g, p.Column) && isOperator(p.Op), api.ErrArg)
		}
		demandBytes(b, g)
		rows := bitset.Not(bitset.New(g.Rows))
		for _, p := range predicates {
			if bitset.Count(rows) == 0 {
				break
			}
			rows = bitset.And(rows, matches(b, g, p))
		}
		return rows
	})
}

// isOperator reports whether op is an operator of a predicate.
func isOperator(op int) bool {
	return api.OpEq <= op && op <= api.OpGe || op == api.PredIsNull || op == api.PredNotNull
}

// matches returns the rows that satisfy p.
func matches(b []byte, g api.RowGroup, p api.Predicate) api.Bitset {
	rows, e := column.Filter(chunkOf(b, g, p.Column), p)
	pass(e)
	demand(rows.N == g.Rows, api.ErrCount)
	return rows
}

// readColumn returns column i; g is valid.
func readColumn(b []byte, g api.RowGroup, i int) api.Vector {
	demandBytes(b, g)
	v, e := column.Decode(chunkOf(b, g, i))
	pass(e)
	demand(len(v.Nulls) == g.Rows, api.ErrCount)
	return v
}

// demandBytes raises an error if chunks are missing.
func demandBytes(b []byte, g api.RowGroup) {
	demand(len(b) >= size(g), api.ErrShort)
}

// size returns the number of bytes of the row group.
func size(g api.RowGroup) int {
	return g.Offsets[len(g.Offsets)-1]
}

// chunkOf returns the chunk of column i.
func chunkOf(b []byte, g api.RowGroup, i int) []byte {
	return b[g.Offsets[i]:g.Offsets[i+1]]
}
