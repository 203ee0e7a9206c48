package vector

import (
	"slices"

	"lamina/api"
)

// ValidBatch reports whether b, which may be anything, is a valid batch (P17.3).
func ValidBatch(b api.Batch) bool {
	if b.Len < 0 || b.All && len(b.Sel) > 0 {
		return false
	}
	for _, column := range b.Columns {
		if len(column.Nulls) != b.Len || !Valid(column) {
			return false
		}
	}
	previous := -1
	for _, i := range b.Sel {
		if i <= previous || i >= b.Len {
			return false
		}
		previous = i
	}
	return true
}

// FromRows returns the batch of the rows, with columns of these types (P17.3).
func FromRows(types []int, rows []api.Row) (api.Batch, api.Errno) {
	if e := checkRows(types, rows); e != api.OK {
		return api.Batch{}, e
	}
	return fromRows(types, rows), api.OK
}

// checkRows returns the error of FromRows.
func checkRows(types []int, rows []api.Row) api.Errno {
	for _, typ := range types {
		if !isType(typ) {
			return api.ErrArg
		}
	}
	for _, row := range rows {
		if len(row) != len(types) {
			return api.ErrCount
		}
		for c, x := range row {
			if !fits(types[c], x) {
				return api.ErrType
			}
		}
	}
	return api.OK
}

// fromRows returns the batch of rows that checkRows accepts.
func fromRows(types []int, rows []api.Row) api.Batch {
	b := api.Batch{Len: len(rows), All: true}
	for c, typ := range types {
		column := build(typ, len(rows), func(i int) api.Value { return rows[i][c] })
		b.Columns = append(b.Columns, column)
	}
	return b
}

// Rows returns the rows of b (P17.3).
func Rows(b api.Batch) []api.Row {
	indices := rowIndices(b)
	rows := make([]api.Row, len(indices))
	for k, i := range indices {
		rows[k] = make(api.Row, len(b.Columns))
		for c, column := range b.Columns {
			rows[k][c] = At(column, i)
		}
	}
	return rows
}

// rowIndices returns the indices of the rows of b.
func rowIndices(b api.Batch) []int {
	if !b.All {
		return b.Sel
	}
	if !isLength(b.Len) {
		return nil
	}
	indices := make([]int, b.Len)
	for i := range indices {
		indices[i] = i
	}
	return indices
}

// Types returns the types of the columns of b (P17.3).
func Types(b api.Batch) []int {
	types := make([]int, len(b.Columns))
	for c, column := range b.Columns {
		types[c] = column.Type
	}
	return types
}

// Flatten returns the batch of the rows of b with All set (P17.3).
func Flatten(b api.Batch) api.Batch {
	indices := rowIndices(b)
	flat := api.Batch{Len: len(indices), All: true}
	for _, column := range b.Columns {
		flat.Columns = append(flat.Columns, Gather(column, indices))
	}
	return flat
}

// Split returns the rows as batches of size rows each, of which the last one may have fewer (P17.4).
func Split(types []int, rows []api.Row, size int) ([]api.Batch, api.Errno) {
	if size < 1 || size > api.MaxBatchRows {
		return nil, api.ErrArg
	}
	if e := checkRows(types, rows); e != api.OK {
		return nil, e
	}
	var batches []api.Batch
	for part := range slices.Chunk(rows, size) {
		batches = append(batches, fromRows(types, part))
	}
	return batches, api.OK
}

// AllRows returns the rows of all batches in order (P17.4).
func AllRows(batches []api.Batch) []api.Row {
	var rows []api.Row
	for _, b := range batches {
		rows = append(rows, Rows(b)...)
	}
	return rows
}
